import Derived.Test.YtmghhakebhgckaaGreatDoorD4g
import Derived.Test.YtmghhakebhgckaaGreatDoorG7
namespace Go.Proofs.YtmghhakebhgckaaGreatDoor
set_option linter.unusedSimpArgs false
set_option linter.unusedVariables false
open Go.RowKit

/-- What a book's reading takes of the program's start. -/
structure LaidG (w : World) : Prop where
  words : WordsAt w
  rules : NamesAt w 1 rulesL
  kinds : NamesAt w 2 kindsL
theorem LaidG.ext {w w' : World} (h : LaidG w) (hx : Ext w w') : LaidG w' := ⟨h.words.ext hx, h.rules.ext hx, h.kinds.ext hx⟩

set_option maxHeartbeats 3200000 in
theorem lawBooks_ok (w : World) (hl : LaidG w) : Calls Tryz.prog 23 #[] w fun e w' => e = .returned (.bool true) ∧ Ext w w' := by
  have Hp := hide (parse_any booksS w hl.rules hl.kinds hl.words (by decide))
  unfold booksS at Hp
  go_enter Tryz.func23, Tryz.ntmps23
  go_wp2_with fail
  refine (unhide Hp).mono ?_
  rintro e w1 ⟨sv, er, ts, rfl, hb1, hok1, hpm, hx1⟩
  obtain ⟨he, hts⟩ := books_parse hpm
  subst he
  rw [hts] at hb1
  clear hpm hts
  have hx2 : Ext w1 (w1.alloc (.cells #[.slice sv.a sv.len sv.cap] 24)) := (Ext.refl w1).alloc _
  have hb2 := hb1.ext hx2
  obtain ⟨a, n, cap⟩ := sv
  have hn : n = 2 := hb1.1
  subst hn
  obtain ⟨b, o, cs, ha, hr, tv, rfl, htv⟩ := hb2.2 0 booksA rfl
  obtain ⟨b', o', cs', ha', hr', tv', rfl, htv'⟩ := hb2.2 1 booksB rfl
  simp only at ha
  subst ha
  simp only [Option.some.injEq, Addr.mk.injEq] at ha'
  obtain ⟨e1, e2, -⟩ := ha'
  subst e1 e2
  obtain ⟨h0, h1, h2, h3, h4⟩ := range5 hr
  obtain ⟨g0, g1, g2, g3, g4⟩ := range5 hr'
  have een := htv.enum
  have eln := htv'.fields.1
  obtain ⟨nm, en, sf, sg, si⟩ := tv
  obtain ⟨nm', en', ⟨fa', fl', fc'⟩, sg', si'⟩ := tv'
  simp only at een eln h1 g2
  rw [een] at h1
  rw [eln] at g2
  have h1' : (w1.alloc (.cells #[.slice (some ⟨b, o, none⟩) 2 cap] 24)).cell? ⟨b, o + 1, none⟩ = some (.bool true) := by simpa [booksA] using h1
  have g2' : (w1.alloc (.cells #[.slice (some ⟨b, o, none⟩) 2 cap] 24)).cell? ⟨b, o + 5 + 2, none⟩ = some (.slice fa' 1 fc') := by simpa [booksB] using g2
  have Hb2 := hide hb2
  clear een eln h0 h1 h2 h3 h4 g0 g1 g2 g3 g4 hr hr' htv htv' hb1 hb2
  go_wp2_with fail
  refine (least_any ⟨some ⟨b, o, none⟩, 2, cap⟩ _ books_small.fits _ _ (unhide Hb2)).mono ?_
  rintro e w3 ⟨rfl, hx3⟩
  rw [books_least]
  have hx03 := (hx1.trans hx2).trans hx3
  go_wp2
  go_ret
  exact ⟨rfl, hx03⟩
end Go.Proofs.YtmghhakebhgckaaGreatDoor
