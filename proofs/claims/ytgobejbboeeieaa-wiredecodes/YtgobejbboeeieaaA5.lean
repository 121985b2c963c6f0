import Derived.Test.YtgobejbboeeieaaA4
import Derived.Lib.AppendStr
namespace Go.Proofs.Ytgobejbboeeieaa
set_option linter.unusedSimpArgs false
set_option linter.unusedVariables false
open Go.RowKit

theorem info5 : (Try.prog.info? 5).map (fun i => (i.zero, i.size, i.bytes)) = some (some (.int .u8 0), 1, 1) := by kernel_rfl
theorem range_of_new1 (w : World) (u : Value) (t : TypeId) {g : Nat} (hg : g = w.heap.size) : (w.alloc (.cells #[u] t)).rangeAt g 0 [u] := fun j v hv => by
  subst hg
  match j, hv with
  | 0, hv => simp at hv; subst hv; simp

/-- Bytes, as cells. -/
def bcells (l : List UInt8) : List Value := l.map fun b => .int .u8 (b.toNat : Int)
theorem bcells_append (l m : List UInt8) : bcells (l ++ m) = bcells l ++ bcells m := by simp [bcells]
theorem bcells_len (l : List UInt8) : (bcells l).length = l.length := by simp [bcells]

/-- All rows of other elements than bytes are as they were. -/
def Keeps (w w' : World) : Prop := ∀ (g : Nat) (cs : Array Value) (t : TypeId) (fz : Nat × Nat), t ≠ 5 → w.heap[g]? = some (.cells cs t fz) → w'.heap[g]? = some (.cells cs t fz)
theorem Keeps.refl (w : World) : Keeps w w := fun _ _ _ _ _ h => h
theorem Keeps.trans {a b c : World} (h : Keeps a b) (k : Keeps b c) : Keeps a c := fun g cs t fz ht hg => k g cs t fz ht (h g cs t fz ht hg)
theorem Ext.keeps {a b : World} (h : Ext a b) : Keeps a b := fun _ _ _ _ _ hg => h.heap hg
theorem keeps_grown {w w' : World} {base : Nat} {v : Value} {n : Nat} {xs : List Value} (ho : w.ownsRow base 5 1 v n xs) (hg : w.grownBy w' v.ownBlock) : Keeps w w' := fun g cs t fz ht h => by
  rw [hg.block g (lt_of_heap h)]
  · exact h
  · intro e
    rcases ho.2 with ⟨rfl, _⟩ | ⟨g', cap, cur, rfl, _, hb, _⟩
    · simp [Value.ownBlock] at e
    · simp only [Value.ownBlock, Option.some.injEq] at e
      subst e
      rw [h] at hb
      simp only [Option.some.injEq, Obj.cells.injEq] at hb
      exact ht hb.2.1
theorem below_owned {B base : Nat} {a w w' : World} {e : TypeId} {size : Nat} {v : Value} {n : Nat} {xs : List Value} (h : Below B a w) (hz : B ≤ w.heap.size) (hg : w.grownBy w' v.ownBlock) (ho : w.ownsRow base e size v n xs) (hb : B ≤ base) : Below B a w' :=
  Below.grown h hg hz fun k hk => Nat.le_trans hb (ho.lt k hk).1

theorem sev_len : ∀ (n u : Nat), u < 128 ^ (n + 1) → (sev u).length ≤ n + 1
  | 0, u, h => by rw [sev_small (by simpa using h)]; simp
  | n + 1, u, h => by
    by_cases hu : u < 128
    · rw [sev_small hu]; simp
    · rw [sev_large hu]
      have := sev_len n (u / 128) (by rw [Nat.div_lt_iff_lt_mul (by omega), ← Nat.pow_succ]; exact h)
      simp only [List.length_cons]; omega
theorem sev_len6 {u : Nat} (h : u < 4398046511104) : (sev u).length ≤ 6 := sev_len 5 u h
theorem or_128 (u : Nat) : bits .or .u8 ((u : Int) % 256) 128 = ((u % 128 + 128 : Nat) : Int) := by
  have key : ∀ c : Fin 256, bits .or .u8 ((c.val : Nat) : Int) 128 = ((c.val % 128 + 128 : Nat) : Int) := by decide +kernel
  have := key ⟨u % 256, by omega⟩
  simp only at this
  rw [show (u : Int) % 256 = ((u % 256 : Nat) : Int) by omega, this]
  omega

set_option maxHeartbeats 1600000 in
set_option maxRecDepth 10000 in
theorem appendNumber_any (base : Nat) (v : Value) (l : List UInt8) (u : Nat) (w : World) (ho : w.ownsRow base 5 1 v l.length (bcells l)) (hbase : base ≤ w.heap.size) (hl : l.length ≤ 100000) (hu : u < 4398046511104) :
    Calls Try.prog 20 #[v, .int .u64 u] w fun e w' => ∃ v', e = .returned v' ∧ w'.ownsRow base 5 1 v' (l ++ sev u).length (bcells (l ++ sev u)) ∧ Below base w w' ∧ Keeps w w' := by
  have hsl := sev_len6 hu
  go_enter Try.func20, Try.ntmps20
  go_wp2
  go_loopw [0, 1] (fun o x wr => ∃ (l' : List UInt8) (u' : Nat), x = .int .u64 u' ∧ wr.ownsRow base 5 1 o l'.length (bcells l') ∧ l' ++ sev u' = l ++ sev u ∧ u' < 4398046511104 ∧ Below base w wr ∧ base ≤ wr.heap.size ∧ Keeps w wr) (fun _ x _ => (intOf x).toNat)
  case atStart => exact ⟨l, u, rfl, ho, rfl, hu, Below.refl _ _, hbase, Keeps.refl _⟩
  case round =>
    obtain ⟨l', u', rfl, ho', he, hu', hbl, hbz, hkp⟩ := hrel
    have hln : l'.length < 1048576 := by
      have := congrArg List.length he
      simp only [List.length_append] at this
      omega
    have He := hide he
    have Hln := hide hln
    have hor := or_128 u'
    clear he hln
    by_cases hlt : u' < 128
    · go_wp2_with (at_builtin; refine wpList_app1 _ _ 35 5 (.int .u8 0) 1 1 Try.underlying35 info5 rfl (by decide) (by decide) rfl rfl base _ l'.length _ rfl (ho'.alloc _) wr.heap.size 1 [.int .u8 u'] rfl rfl ?c1 ?c2 ?c3 ?c4 ?_)
      case c1 => exact range_of_new1 _ _ _ (by simp)
      case c2 => intro u hu; simp at hu; subst hu; rfl
      case c3 => exact Hln
      case c4 => simp; omega
      intro v1 w1 ho1 hg1
      have ho2 : w1.ownsRow base 5 1 v1 (l ++ sev u).length (bcells (l ++ sev u)) := by
        have e : l ++ sev u = l' ++ [UInt8.ofNat u'] := by rw [← unhide He, sev_small hlt]
        rw [e, List.length_append, bcells_append]
        simpa [bcells, byte_small hlt] using ho1
      have hx : Below base wr (wr.alloc (.cells #[.int .u8 u'] 5)) := (Below.refl _ _).alloc hbz _
      have hb1 : Below base wr w1 := below_owned hx (by simp; omega) hg1 (ho'.alloc _) (Nat.le_refl _)
      have hk1 : Keeps wr w1 := (((Ext.refl wr).alloc _).keeps).trans (keeps_grown (ho'.alloc _) hg1)
      go_wp2
      go_ret
      exact ⟨v1, rfl, ho2, hbl.trans hb1, hkp.trans hk1⟩
    · go_wp2_with (at_builtin; refine wpList_app1 _ _ 35 5 (.int .u8 0) 1 1 Try.underlying35 info5 rfl (by decide) (by decide) rfl rfl base _ l'.length _ rfl (ho'.alloc _) wr.heap.size 1 [.int .u8 (u' % 128 + 128 : Nat)] rfl rfl ?c1 ?c2 ?c3 ?c4 ?_)
      case c1 => exact range_of_new1 _ _ _ (by simp)
      case c2 => intro u hu; simp at hu; subst hu; rfl
      case c3 => exact Hln
      case c4 => simp; omega
      intro v1 w1 ho1 hg1
      have ho2 : w1.ownsRow base 5 1 v1 (l' ++ [UInt8.ofNat (u' % 128 + 128)]).length (bcells (l' ++ [UInt8.ofNat (u' % 128 + 128)])) := by
        rw [List.length_append, bcells_append, show bcells [UInt8.ofNat (u' % 128 + 128)] = [.int .u8 ((UInt8.ofNat (u' % 128 + 128)).toNat : Int)] from rfl, byte_large]
        exact ho1
      have e2 : Hid ((l' ++ [UInt8.ofNat (u' % 128 + 128)]) ++ sev (u' / 128) = l ++ sev u) := by
        unfold Hid
        rw [← unhide He, sev_large hlt]; simp
      have hx : Below base wr (wr.alloc (.cells #[.int .u8 (u' % 128 + 128 : Nat)] 5)) := (Below.refl _ _).alloc hbz _
      have hb1 : Below base wr w1 := below_owned hx (by simp; omega) hg1 (ho'.alloc _) (Nat.le_refl _)
      have hk1 : Keeps wr w1 := (((Ext.refl wr).alloc _).keeps).trans (keeps_grown (ho'.alloc _) hg1)
      have hz1 : base ≤ w1.heap.size := Nat.le_trans hbz hb1.size
      clear hor
      go_wp2
      go_roundw
      case rel => exact ⟨_, u' / 128, by go_num, ho2, e2, by omega, hbl.trans hb1, hz1, hkp.trans hk1⟩
      case measure => simp [intOf]; omega
end Go.Proofs.Ytgobejbboeeieaa
