import Derived.Test.YtmghhakebhgckaaGreatDoorD8g
namespace Go.Proofs.YtmghhakebhgckaaGreatDoor
set_option linter.unusedSimpArgs false
set_option linter.unusedVariables false
open Go.RowKit

theorem print_all (s : SV) (ts : BookM) (w : World) (hs : BookAt w s ts) (hn : ts.Small) (hl : LaidG w) (htab : TabAt w) :
    Calls Tryz.prog 24 #[.agg #[.slice s.a s.len s.cap]] w fun e w' => e = .returned (.tuple #[.string (printS ts), .int .i64 (goodM ts)]) ∧ Ext w w' := by
  by_cases hg : goodM ts = 0
  · have := print_good s ts w hs hn hl.words hl.rules hl.kinds htab hg (good_pr hg) (Nat.le_trans (len_ok ts hg) (by decide))
    rw [printS_ok hg (x := ⟨(bookB ts).toArray⟩) (by rw [bytes_toList]), hg]
    exact this
  · have := print_bad s ts w hs hn.fits hl.words (goodM ts) rfl (by simpa using hg)
    rw [printS_bad hg]
    exact this
set_option maxHeartbeats 3200000 in
theorem bookPrints_calls (s : SV) (ts : BookM) (hn : ts.Small) (w : World) (hs : BookAt w s ts) (hl : LaidG w) (hm : MaxAt w) (htab : TabAt w) :
    Calls Tryz.prog 4 #[.agg #[.slice s.a s.len s.cap]] w fun e w' => e = .returned (.bool true) ∧ Ext w w' := by
  have Hn := hide hn
  obtain ⟨w0, hw0⟩ : ∃ w0, w0 = w.alloc (.cells #[.slice s.a s.len s.cap] 24) := ⟨_, rfl⟩
  have hx0 : Ext w w0 := by rw [hw0]; exact (Ext.refl w).alloc _
  have r0 : w0.heap[w.heap.size]? = some (.cells #[.slice s.a s.len s.cap] 24 (0, 0)) := by rw [hw0]; exact heap_alloc_new _ _
  have HW0 := hide hw0
  have Hs := hide hs
  have Hl := hide hl
  have Hm := hide hm
  have Ht := hide htab
  clear hw0 hs hl hm hn htab
  have p0 : w0.cell? ⟨w.heap.size, 0, none⟩ = some (.slice s.a s.len s.cap) := cell_of_row _ _ 0 _ _ _ r0
  have hP := fun w' sv h1 h2 h3 => print_all sv ts w' h1 (unhide Hn) h2 h3
  have hB := fun w' sv h1 h2 => printBook_any sv ts (unhide Hn) w' h1 h2
  generalize printS ts = x at hP hB
  generalize goodM ts = er at hP hB
  have HP := hide hP
  have HB := hide hB
  clear hP hB
  go_enter Tryz.func4, Tryz.ntmps4
  go_wp2_with fail
  rw [← unhide HW0]
  refine (copyBook_any s ts (unhide Hn) w0 ((unhide Hs).ext hx0)).mono ?_
  rintro e w1 ⟨sc, rfl, hc1, hx1⟩
  have hE1 := hx0.trans hx1
  have p1 := hx1.cell p0
  have Hc := hide hc1
  clear hc1
  go_wp2_with fail
  refine (unhide HP w1 sc (unhide Hc) ((unhide Hl).ext hE1) ((unhide Ht).ext hE1)).mono ?_
  rintro e w2 ⟨rfl, hx2⟩
  have hE2 := hE1.trans hx2
  have p2 := hx2.cell p1
  go_wp2_with fail
  refine (unhide HB w2 s ((unhide Hs).ext hE2) ((unhide Hm).ext hE2)).mono ?_
  rintro e w3 ⟨rfl, hx3⟩
  have hE3 := hE2.trans hx3
  go_wp2_with fail
  refine (lawBooks_ok _ ((unhide Hl).ext hE3)).mono ?_
  rintro e w4 ⟨rfl, hx4⟩
  go_wp2
  go_ret
  exact ⟨rfl, hE3.trans hx4⟩
end Go.Proofs.YtmghhakebhgckaaGreatDoor
