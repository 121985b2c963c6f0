import Derived.Test.YtmghhakebhgckaaGreatDoorC4g
namespace Go.Proofs.YtmghhakebhgckaaGreatDoor
set_option linter.unusedSimpArgs false
set_option linter.unusedVariables false
open Go.RowKit

def lettersL : List UInt8 := [97, 98, 99, 100, 101, 102, 103, 104, 105, 106, 107, 108, 109, 110, 111, 112, 113, 114, 115, 116, 117, 118, 119, 120, 121, 122]
theorem info87 : (Tryz.prog.info? 87).map (fun i => (i.zero, i.size)) = some (some (.agg (Array.replicate 256 (.bool false))), 256) := by kernel_rfl
theorem row_letters : Lib.setCells lettersL = ((List.range 256).map fun c => Value.bool (decide (97 ≤ c) && decide (c ≤ 122))).toArray := by kernel_rfl
theorem cells_letters (c : Nat) (h : c < 256) : (Lib.setCells lettersL)[c]? = some (.bool (decide (97 ≤ c) && decide (c ≤ 122))) := by
  rw [row_letters]
  simp [h]
theorem size_letters : (Lib.setCells lettersL).size = 256 := by rw [row_letters]; simp
theorem one_letters : (Lib.setCells lettersL).all (·.oneCell') = true := by kernel_rfl
theorem letterB_nat (c : UInt8) : letterB c = (decide (97 ≤ c.toNat) && decide (c.toNat ≤ 122)) := by
  unfold letterB
  rw [Bool.eq_iff_iff]
  simp only [Bool.and_eq_true, decide_eq_true_eq]
  omega
theorem set_letters (w : World) : SetAt (w.alloc (.cells (Lib.setCells lettersL) 87)) w.heap.size letterB := fun c => by
  rw [cell_of_row _ _ _ _ _ _ (heap_alloc_new w _), letterB_nat]
  exact cells_letters c.toNat c.toNat_lt
theorem trim_all {p : UInt8 → Bool} {l m k : List UInt8} (h1 : EndsIn p l m) (h2 : BeginsIn p m k) (h3 : ∀ c t, k = c :: t → p c = false) : k.isEmpty = l.all p := by
  obtain ⟨r1, rfl, a1⟩ := h1
  obtain ⟨r2, rfl, a2⟩ := h2
  cases k with
  | nil => simp [a1, a2]
  | cons c t => simp [h3 c t rfl]

set_option maxHeartbeats 1600000 in
set_option maxRecDepth 4000 in
theorem trim_any (s : ByteArray) (w : World) (hs : s.size ≤ 9223372036854775807) (h0 : s.toList.isEmpty = false) :
    Calls Tryz.prog 38 #[.string s, .string ⟨#[97, 98, 99, 100, 101, 102, 103, 104, 105, 106, 107, 108, 109, 110, 111, 112, 113, 114, 115, 116, 117, 118, 119, 120, 121, 122]⟩] w fun e w' => ∃ t : ByteArray, e = .returned (.string t) ∧ t.toList.isEmpty = s.toList.all letterB ∧ Ext w w' := by
  obtain ⟨hzero, hsize⟩ := zero_of_info info87
  have Hmk := hide (Tryz.strings_makeASCIISet hzero ⟨#[97, 98, 99, 100, 101, 102, 103, 104, 105, 106, 107, 108, 109, 110, 111, 112, 113, 114, 115, 116, 117, 118, 119, 120, 121, 122]⟩ w (by decide) (by
    intro j b hb
    have hm := List.mem_of_getElem? hb
    revert hm
    have : ∀ b ∈ lettersL, b.toNat < 128 := by decide
    exact this b))
  obtain ⟨cut, hcut⟩ : ∃ cut : ByteArray, (⟨#[97, 98, 99, 100, 101, 102, 103, 104, 105, 106, 107, 108, 109, 110, 111, 112, 113, 114, 115, 116, 117, 118, 119, 120, 121, 122]⟩ : ByteArray) = cut := ⟨_, rfl⟩
  have hcs : (cut.size : Int) = 26 := by rw [← hcut]; rfl
  have hce : cut.toList.isEmpty = false := by rw [← hcut, bytes_toList]; rfl
  have hset : Lib.setCells cut.data.toList = Lib.setCells lettersL := by rw [← hcut]; rfl
  rw [hcut] at Hmk ⊢
  rw [hset] at Hmk
  clear hcut hset
  have hst0 := fun u : World => run_storeCells_new (P := Tryz.prog) u 87 (Array.replicate 256 (.bool false)) (Lib.setCells lettersL) (by rw [hsize, size_letters]) (by rw [size_letters]; simp) one_letters
  have HS := fun u : World => hide (set_letters u)
  have hscz := size_letters
  obtain ⟨SC, hSC⟩ : ∃ SC, Lib.setCells lettersL = SC := ⟨_, rfl⟩
  rw [hSC] at Hmk HS hscz
  rw [hSC] at hst0
  clear hSC hsize
  obtain ⟨Z, hZ⟩ : ∃ Z : Array Value, Array.replicate 256 (Value.bool false) = Z := ⟨_, rfl⟩
  rw [hZ] at hzero hst0
  clear hZ
  have hst : (storeCells ⟨w.heap.size + 1, 0, none⟩ SC.toList 0).run Tryz.prog ((w.alloc (.cells SC 87)).alloc (.cells Z 87)) = .ok () ((w.alloc (.cells SC 87)).alloc (.cells SC 87)) := by
    have := hst0 (w.alloc (.cells SC 87))
    simpa using this
  clear hst0
  go_enter Tryz.func38, Tryz.ntmps38
  go_wp2_with fail
  refine (unhide Hmk).mono ?_
  rintro e w1 ⟨rfl, rfl⟩
  have hset : SetAt ((w.alloc (.cells SC 87)).alloc (.cells SC 87)) (w.heap.size + 1) letterB := by
    have := unhide (HS (w.alloc (.cells SC 87)))
    simpa using this
  have hx2 : Ext w ((w.alloc (.cells SC 87)).alloc (.cells SC 87)) := ((Ext.refl w).alloc _).alloc _
  have Hset := hide hset
  clear hset HS Hmk
  go_wp2_with fail
  refine (trimRight_any s (w.heap.size + 1) letterB _ hs (unhide Hset)).mono ?_
  rintro e w2 ⟨t1, rfl, he1, hz1, rfl⟩
  have He1 := hide he1
  clear he1
  go_wp2_with fail
  refine (trimLeft_any t1 (w.heap.size + 1) letterB _ hz1 (unhide Hset)).mono ?_
  rintro e w2 ⟨t2, rfl, he2, hn2, rfl⟩
  have HT := hide (trim_all (unhide He1) he2 hn2)
  clear he2 hn2
  go_wp2
  go_ret
  exact ⟨t2, rfl, by rw [bytes_toList, bytes_toList]; exact unhide HT, hx2⟩
end Go.Proofs.YtmghhakebhgckaaGreatDoor
