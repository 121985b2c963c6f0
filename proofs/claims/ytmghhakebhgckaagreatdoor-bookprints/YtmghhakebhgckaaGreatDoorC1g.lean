import Derived.Test.YtmghhakebhgckaaGreatDoorG2
namespace Go.Proofs.YtmghhakebhgckaaGreatDoor
set_option linter.unusedSimpArgs false
set_option linter.unusedVariables false
open Go.RowKit

/-- One of the first k items has that number. -/
def hasTo (l : List ItemM) (n : Int) (k : Nat) : Bool := (l.take k).any fun x => x.n == n
theorem hasTo_succ {l : List ItemM} {n : Int} {k : Nat} (hk : k < l.length) : hasTo l n (k + 1) = (hasTo l n k || l[k].n == n) := by
  unfold hasTo
  rw [List.take_succ_eq_append_getElem hk, List.any_append]
  simp

set_option maxHeartbeats 800000 in
theorem itemIn_any (tv : TV) (t : TypeM) (n : Int) (w : World) (ht : TypeAt w tv t) (hn : t.items.length ≤ 9223372036854775807) :
    Calls Tryz.prog 17 #[.agg #[.string tv.name, .bool tv.enum, .slice tv.fields.a tv.fields.len tv.fields.cap, .slice tv.gone.a tv.gone.len tv.gone.cap, .slice tv.items.a tv.items.len tv.items.cap], .int .i64 n] w fun e w' => e = .returned (.bool (hasTo t.items n t.items.length)) ∧ Ext w w' := by
  obtain ⟨name, enum, ⟨fa, fn, fc⟩, ⟨ga, gn, gc⟩, ⟨ia, il, ic⟩⟩ := tv
  obtain ⟨hi, hts⟩ := ht.items
  simp only at hi hts
  subst hi
  show Calls Tryz.prog 17 #[.agg #[.string name, .bool enum, .slice fa fn fc, .slice ga gn gc, .slice ia t.items.length ic], .int .i64 n] w _
  have hx0 : Ext w (w.alloc (.cells #[.string name, .bool enum, .slice fa fn fc, .slice ga gn gc, .slice ia t.items.length ic] 30)) := (Ext.refl w).alloc _
  clear ht
  go_enter Tryz.func17, Tryz.ntmps17
  go_wp2
  go_loopw [5, 11] (fun b i wr => ∃ k : Nat, k ≤ t.items.length ∧ i = .int .i64 k ∧ b = .bool (hasTo t.items n k) ∧ Ext w wr) (fun _ i _ => t.items.length - (intOf i).toNat)
  case atStart => exact ⟨0, by omega, rfl, rfl, hx0⟩
  case round =>
    obtain ⟨k, hk, rfl, rfl, hx⟩ := hrel
    by_cases hlt : k < t.items.length
    · obtain ⟨b, o, cs, rfl, hr, rfl⟩ := hts k t.items[k] (by simp [hlt])
      have HS := hide (hasTo_succ (n := n) hlt)
      obtain ⟨h0, h1⟩ := range2 (hx.range hr)
      generalize t.items[k] = f at *
      clear hts hr
      cases hb : hasTo t.items n k
      · have HS2 : Hid (hasTo t.items n (k + 1) = (f.n == n)) := by unfold Hid; rw [unhide HS, hb]; rfl
        go_wp2
        go_roundw
        case rel => exact ⟨k + 1, by omega, by go_num, by rw [unhide HS2], hx.alloc _⟩
        case measure => simp [intOf]; omega
      · have HS2 : Hid (hasTo t.items n (k + 1) = true) := by unfold Hid; rw [unhide HS, hb]; rfl
        go_wp2
        go_roundw
        case rel => exact ⟨k + 1, by omega, by go_num, by rw [unhide HS2], hx.alloc _⟩
        case measure => simp [intOf]; omega
    · go_wp2
      go_ret
      have e : k = t.items.length := by omega
      subst e
      exact ⟨rfl, hx⟩
end Go.Proofs.YtmghhakebhgckaaGreatDoor
