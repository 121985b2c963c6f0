import Derived.Test.YtgobejbboeeieaaB1
namespace Go.Proofs.Ytgobejbboeeieaa
set_option linter.unusedSimpArgs false
set_option linter.unusedVariables false
open Go.RowKit

theorem conv_one (w : World) (c : UInt8) : (convert 35 9 (.slice (some ⟨w.heap.size, 0, none⟩) 1 1)).run Try.prog (w.alloc (.cells #[.int .u8 (c.toNat : Int)] 5)) = .ok (.string ⟨#[c]⟩) (w.alloc (.cells #[.int .u8 (c.toNat : Int)] 5)) := by
  have := run_convert_bytes_back (P := Try.prog) (w.alloc (.cells #[.int .u8 (c.toNat : Int)] 5)) 35 9 5 ⟨w.heap.size, 0, none⟩ 1 [c] Try.underlying35 Try.underlying5 Try.underlying9 (fun j hj => by
    have : j = 0 := by simpa using hj
    subst this
    simp [Addr.add])
  exact this
theorem append_data (a b : ByteArray) : (a ++ b).data.toList = a.data.toList ++ b.data.toList := by
  rw [ByteArray.data_append, Array.toList_append]
theorem ret_str {a b : ByteArray} (h : a = b) : Ending.returned (.string a) = .returned (.string b) := by rw [h]
def sevB (u : Nat) : ByteArray := ⟨(sev u).toArray⟩

set_option maxHeartbeats 1600000 in
theorem sevens_any (u : Nat) (w : World) (hu : u < 4398046511104) :
    Calls Try.prog 17 #[.int .i64 u] w fun e w' => e = .returned (.string (sevB u)) ∧ Ext w w' := by
  go_enter Try.func17, Try.ntmps17
  go_wp2
  go_loopw [0, 3] (fun x s wr => ∃ (u' : Nat) (t : ByteArray), x = .int .i64 u' ∧ s = .string t ∧ u' < 4398046511104 ∧ t.data.toList ++ sev u' = sev u ∧ Ext w wr) (fun x _ _ => (intOf x).toNat)
  case atStart => exact ⟨u, ⟨#[]⟩, rfl, rfl, hu, rfl, Ext.refl _⟩
  case round =>
    obtain ⟨u', t, rfl, rfl, hu', he, hx⟩ := hrel
    have hts : t.size ≤ 6 := by
      have h1 := congrArg List.length he
      have h2 := sev_len6 hu
      rw [List.length_append, bytes_len] at h1
      omega
    have He := hide he
    clear he
    have hone : ∀ c : UInt8, (ByteArray.mk #[c]).size = 1 := fun _ => rfl
    by_cases hlt : u' < 128
    · have hcv := conv_one wr (UInt8.ofNat u')
      rw [byte_small hlt] at hcv
      go_wp2
      go_ret
      refine ⟨ret_str (bytes_ext ?_), hx.alloc _⟩
      rw [append_data]
      show t.data.toList ++ [UInt8.ofNat u'] = sev u
      rw [← sev_small hlt]; exact unhide He
    · have hcv := conv_one wr (UInt8.ofNat (u' % 128 + 128))
      rw [byte_large u', show ((u' % 128 + 128 : Nat) : Int) = (u' : Int) % 128 + 128 by omega] at hcv
      go_wp2
      go_roundw
      case rel => exact ⟨u' / 128, _, by go_num, rfl, by omega, by rw [append_data, ← unhide He, sev_large hlt]; simp, hx.alloc _⟩
      case measure => simp [intOf]; omega
end Go.Proofs.Ytgobejbboeeieaa
