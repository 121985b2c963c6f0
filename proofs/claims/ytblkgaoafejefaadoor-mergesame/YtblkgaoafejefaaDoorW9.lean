import Derived.Test.YtblkgaoafejefaaDoorW8
namespace Go.Proofs.YtblkgaoafejefaaDoor
set_option linter.unusedSimpArgs false
set_option linter.unusedVariables false
open Go.RowKit

def BookM.Small (ts : BookM) : Prop := ts.length ≤ 1048576 ∧ ∀ t ∈ ts, t.Small
def BookM.Fits (ts : BookM) : Prop := ts.length ≤ 9223372036854775807 ∧ ∀ t ∈ ts, t.Fits
theorem BookM.Small.fits {ts : BookM} (h : ts.Small) : ts.Fits := ⟨Nat.le_trans h.1 (by decide), fun t ht => (h.2 t ht).fits⟩
theorem findM_mem {ts : BookM} {name : ByteArray} {t : TypeM} (h : findM ts name = some t) : t ∈ ts := List.mem_of_find?_eq_some h

def goodTypeM (b : BookM) (t : TypeM) : Bool := namedL t.name.toList && (if t.enum then goodEnumM t else goodMessageM b t)

set_option maxHeartbeats 1600000 in
theorem goodType_any (s : SV) (ts : BookM) (tv : TV) (t : TypeM) (w : World) (hs : BookAt w s ts) (ht : TypeAt w tv t) (hw : WordsAt w) (hm : ts.length ≤ 9223372036854775807) (hn : t.Fits) :
    Calls Tryd.prog 16 #[.agg #[.slice s.a s.len s.cap], .agg #[.string tv.name, .bool tv.enum, .slice tv.fields.a tv.fields.len tv.fields.cap, .slice tv.gone.a tv.gone.len tv.gone.cap, .slice tv.items.a tv.items.len tv.items.cap]] w fun e w' => e = .returned (.bool (goodTypeM ts t)) ∧ Ext w w' := by
  have hsn := hn.name
  rw [← ht.name] at hsn
  have E : Hid (goodTypeM ts t = (namedL tv.name.toList && (if tv.enum then goodEnumM t else goodMessageM ts t))) := by
    unfold Hid goodTypeM; rw [ht.name, ht.enum]
  have Ht : Hid (TypeAt w tv t) := ht
  have Hn : Hid t.Fits := hn
  clear ht hn
  obtain ⟨name, enum, fs, gs, is⟩ := tv
  simp only at E hsn
  have hx0 : Ext w ((w.alloc (.cells #[.slice s.a s.len s.cap] 24)).alloc (.cells #[.string name, .bool enum, .slice fs.a fs.len fs.cap, .slice gs.a gs.len gs.cap, .slice is.a is.len is.cap] 46)) := ((Ext.refl w).alloc _).alloc _
  show Calls Tryd.prog 16 #[.agg #[.slice s.a s.len s.cap], .agg #[.string name, .bool enum, .slice fs.a fs.len fs.cap, .slice gs.a gs.len gs.cap, .slice is.a is.len is.cap]] w _
  cases h1 : namedL name.toList
  · have H1 : Hid (namedL name.toList = false) := h1
    clear h1
    go_enter Tryd.func16, Tryd.ntmps16
    go_wp2_with fail
    refine (named_any name _ (hw.ext hx0) (by omega)).mono ?_
    rintro e w1 ⟨rfl, rfl⟩
    rw [H1.out]
    go_wp2
    go_ret
    exact ⟨ret_bool (E.out.trans (by rw [H1.out]; rfl)).symm, hx0⟩
  have H1 : Hid (namedL name.toList = true) := h1
  clear h1
  cases enum
  · have E2 : Hid (goodTypeM ts t = goodMessageM ts t) := E.out.trans (by rw [H1.out]; rfl)
    clear E
    go_enter Tryd.func16, Tryd.ntmps16
    go_wp2_with fail
    refine (named_any name _ (hw.ext hx0) (by omega)).mono ?_
    rintro e w1 ⟨rfl, rfl⟩
    rw [H1.out]
    go_wp2_with fail
    refine (goodMessage_any s ts ⟨name, false, fs, gs, is⟩ t _ (hs.ext hx0) (Ht.out.ext hx0) (hw.ext hx0) hm Hn.out).mono ?_
    rintro e w2 ⟨rfl, hx2⟩
    go_wp2
    go_ret
    exact ⟨ret_bool E2.out.symm, hx0.trans hx2⟩
  · have E2 : Hid (goodTypeM ts t = goodEnumM t) := E.out.trans (by rw [H1.out]; rfl)
    clear E
    go_enter Tryd.func16, Tryd.ntmps16
    go_wp2_with fail
    refine (named_any name _ (hw.ext hx0) (by omega)).mono ?_
    rintro e w1 ⟨rfl, rfl⟩
    rw [H1.out]
    go_wp2_with fail
    refine (goodEnum_any ⟨name, true, fs, gs, is⟩ t _ (Ht.out.ext hx0) (hw.ext hx0) ⟨Hn.out.fields, Hn.out.gone, Hn.out.items⟩ Hn.out.iname).mono ?_
    rintro e w2 ⟨rfl, hx2⟩
    go_wp2
    go_ret
    exact ⟨ret_bool E2.out.symm, hx0.trans hx2⟩

def goodLeastB (n : Int) : Bool := decide (1 ≤ n) && decide (n ≤ 12)
set_option maxHeartbeats 400000 in
theorem goodLeast_any (n : Int) (w : World) : Calls Tryd.prog 17 #[.int .i64 n] w fun e w' => e = .returned (.bool (goodLeastB n)) ∧ w' = w := by
  unfold goodLeastB
  go_enter Tryd.func17, Tryd.ntmps17
  go_wp2
  all_goals
    go_ret
    rename_i h
    exact ⟨by simp [h]; try omega, rfl⟩

def leastFold (g : FieldM → Int) : List FieldM → Int → Int
  | [], acc => acc
  | f :: r, acc => if (f.rule == 1) = false then leastFold g r acc else if g f = 0 then 0 else leastFold g r (acc + g f)
def leastM (b : BookM) : Nat → ByteArray → Int
  | 0, _ => 0
  | n + 1, name => match findM b name with
    | none => 0
    | some t => if t.enum = true ∨ 5 < t.fields.length then 0 else leastFold (fun f => if f.kind = 5 then leastM b n f.type else 1) t.fields 1
def needM (b : BookM) (n : Nat) (f : FieldM) : Int := if f.kind = 5 then leastM b n f.type else 1

theorem leastFold_bd (g : FieldM → Int) (M : Int) (hM : 0 ≤ M) (hg : ∀ f, 0 ≤ g f ∧ g f ≤ M) : ∀ (l : List FieldM) (acc : Int), 0 ≤ acc → 0 ≤ leastFold g l acc ∧ leastFold g l acc ≤ acc + l.length * M
  | [], acc, h => by simp [leastFold, h]
  | f :: r, acc, h => by
    have hh := hg f
    have e : ((f :: r).length : Int) * M = r.length * M + M := by simp [Int.add_mul]
    have hr : 0 ≤ (r.length : Int) * M := Int.mul_nonneg (by omega) hM
    unfold leastFold
    split
    · have := leastFold_bd g M hM hg r acc h; omega
    · split
      · omega
      · have := leastFold_bd g M hM hg r (acc + g f) (by omega); omega
theorem leastM_bd (b : BookM) : ∀ (n : Nat) (name : ByteArray), 0 ≤ leastM b n name ∧ leastM b n name ≤ 6 ^ n
  | 0, _ => by simp [leastM]
  | n + 1, name => by
    have hp : (1 : Int) ≤ 6 ^ n := Int.pow_pos (by decide)
    have e6 : (6 : Int) ^ (n + 1) = 6 * 6 ^ n := by rw [Int.pow_succ]; omega
    unfold leastM
    split
    · omega
    · rename_i t _
      split
      · omega
      · rename_i h
        have h5 : t.fields.length ≤ 5 := by omega
        have := leastFold_bd (fun f => if f.kind = 5 then leastM b n f.type else 1) (6 ^ n) (by omega) (fun f => by
          split
          · exact leastM_bd b n f.type
          · omega) t.fields 1 (by omega)
        have hm : (t.fields.length : Int) * 6 ^ n ≤ 5 * 6 ^ n := Int.mul_le_mul_of_nonneg_right (by omega) (by omega)
        omega
theorem needM_bd (b : BookM) (n : Nat) (hn : n ≤ 4) (f : FieldM) : 0 ≤ needM b n f ∧ needM b n f ≤ 1296 := by
  have h := leastM_bd b n f.type
  have : (6 : Int) ^ n ≤ 1296 := by
    have : n = 0 ∨ n = 1 ∨ n = 2 ∨ n = 3 ∨ n = 4 := by omega
    rcases this with rfl | rfl | rfl | rfl | rfl <;> decide
  unfold needM
  split <;> omega
end Go.Proofs.YtblkgaoafejefaaDoor
