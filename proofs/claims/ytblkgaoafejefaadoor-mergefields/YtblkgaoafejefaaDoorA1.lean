import Derived.Test.YtblkgaoafejefaaDoorG2
import Derived.Test.YtblkgaoafejefaaDoorReg2
namespace Go.Proofs.YtblkgaoafejefaaDoor
set_option linter.unusedSimpArgs false
set_option linter.unusedVariables false
open Go.RowKit

def ItemM.zero : ItemM := ⟨⟨#[]⟩, 0⟩
def eqTF (x y : Bool × FieldM) : Bool := (x.1 == y.1) && eqF x.2 y.2
def eqTI (x y : Bool × ItemM) : Bool := (x.1 == y.1) && eqI x.2 y.2
theorem eqlT (x y : Bool × Bool) (w : World) : (binOp .eql 64 (.agg #[.bool x.1, .bool x.2]) (.agg #[.bool y.1, .bool y.2])).run Tryd.prog w = .ok (.bool (eqBB x y)) w := by
  obtain ⟨a, b⟩ := x
  obtain ⟨c, d⟩ := y
  unfold eqBB
  by_cases h1 : a = c <;> by_cases h2 : b = d <;> simp [go_sem, h1, h2]
set_option maxHeartbeats 1600000 in
theorem eqlF (x y : Bool × FieldM) (w : World) : (binOp .eql 85 (.agg #[.bool x.1, .int .i64 x.2.id, .string x.2.name, .string x.2.type, .int .i64 x.2.kind, .int .i64 x.2.rule]) (.agg #[.bool y.1, .int .i64 y.2.id, .string y.2.name, .string y.2.type, .int .i64 y.2.kind, .int .i64 y.2.rule])).run Tryd.prog w = .ok (.bool (eqTF x y)) w := by
  obtain ⟨a, ⟨i, nm, ty, kd, ru⟩⟩ := x
  obtain ⟨b, ⟨i2, nm2, ty2, kd2, ru2⟩⟩ := y
  unfold eqTF eqF
  by_cases h0 : a = b
  case neg => simp [go_sem, h0]
  by_cases h1 : i = i2
  case neg => simp [go_sem, h0, h1]
  by_cases h2 : nm.toList = nm2.toList
  case neg => simp [go_sem, h0, h1, h2]
  by_cases h3 : ty.toList = ty2.toList
  case neg => simp [go_sem, h0, h1, h2, h3]
  by_cases h4 : kd = kd2
  case neg => simp [go_sem, h0, h1, h2, h3, h4]
  by_cases h5 : ru = ru2
  case neg => simp [go_sem, h0, h1, h2, h3, h4, h5]
  simp [go_sem, h0, h1, h2, h3, h4, h5]
set_option maxHeartbeats 1600000 in
theorem eqlI (x y : Bool × ItemM) (w : World) : (binOp .eql 94 (.agg #[.bool x.1, .string x.2.name, .int .i64 x.2.n]) (.agg #[.bool y.1, .string y.2.name, .int .i64 y.2.n])).run Tryd.prog w = .ok (.bool (eqTI x y)) w := by
  obtain ⟨a, ⟨nm, i⟩⟩ := x
  obtain ⟨b, ⟨nm2, i2⟩⟩ := y
  unfold eqTI eqI
  by_cases h0 : a = b
  case neg => simp [go_sem, h0]
  by_cases h1 : nm.toList = nm2.toList
  case neg => simp [go_sem, h0, h1]
  by_cases h2 : i = i2
  case neg => simp [go_sem, h0, h1, h2]
  simp [go_sem, h0, h1, h2]
set_option maxHeartbeats 3200000 in
theorem settleT_any (was a b : Bool × Bool) (w : World) :
    Calls Tryd.prog 24 #[.agg #[.bool was.1, .bool was.2], .agg #[.bool a.1, .bool a.2], .agg #[.bool b.1, .bool b.2]] w fun e w' => e = .returned (.tuple #[.agg #[.bool ((settleB eqBB was a b).getD (false, false)).1, .bool ((settleB eqBB was a b).getD (false, false)).2], .bool (settleB eqBB was a b).isSome]) ∧ Ext w w' := by
  have q := eqlT
  generalize hR : settleB eqBB was a b = R
  unfold settleB at hR
  have HR := hide hR
  clear hR
  have hx : ∀ o1 o2 o3 o4 : Obj, Ext w ((((w.alloc o1).alloc o2).alloc o3).alloc o4) := fun _ _ _ _ => ((((Ext.refl w).alloc _).alloc _).alloc _).alloc _
  cases h1 : eqBB a b
  · cases h2 : eqBB b was
    · cases h3 : eqBB a was
      · have e : R = none := by rw [← unhide HR]; simp [h1, h2, h3]
        subst e
        go_enter Tryd.func24, Tryd.ntmps24
        go_wp2
        refine bodyPost_ret (v := .tuple #[.agg #[.bool (false, false).1, .bool (false, false).2], .bool false]) (by simp [results, Tryd.results24, go_sem, FieldM.zero, ItemM.zero]) rfl ⟨rfl, ?_⟩
        exact (hx _ _ _ _).alloc _
      · have e : R = some b := by rw [← unhide HR]; simp [h1, h2, h3]
        subst e
        go_enter Tryd.func24, Tryd.ntmps24
        go_wp2
        exact bodyPost_ret (v := .tuple #[.agg #[.bool b.1, .bool b.2], .bool true]) (by simp [results, Tryd.results24, go_sem]) rfl ⟨rfl, hx _ _ _ _⟩
    · have e : R = some a := by rw [← unhide HR]; simp [h1, h2]
      subst e
      go_enter Tryd.func24, Tryd.ntmps24
      go_wp2
      exact bodyPost_ret (v := .tuple #[.agg #[.bool a.1, .bool a.2], .bool true]) (by simp [results, Tryd.results24, go_sem]) rfl ⟨rfl, hx _ _ _ _⟩
  · have e : R = some a := by rw [← unhide HR]; simp [h1]
    subst e
    go_enter Tryd.func24, Tryd.ntmps24
    go_wp2
    exact bodyPost_ret (v := .tuple #[.agg #[.bool a.1, .bool a.2], .bool true]) (by simp [results, Tryd.results24, go_sem]) rfl ⟨rfl, hx _ _ _ _⟩
set_option maxHeartbeats 3200000 in
theorem settleF_any (was a b : Bool × FieldM) (w : World) :
    Calls Tryd.prog 42 #[.agg #[.bool was.1, .int .i64 was.2.id, .string was.2.name, .string was.2.type, .int .i64 was.2.kind, .int .i64 was.2.rule], .agg #[.bool a.1, .int .i64 a.2.id, .string a.2.name, .string a.2.type, .int .i64 a.2.kind, .int .i64 a.2.rule], .agg #[.bool b.1, .int .i64 b.2.id, .string b.2.name, .string b.2.type, .int .i64 b.2.kind, .int .i64 b.2.rule]] w fun e w' => e = .returned (.tuple #[.agg #[.bool ((settleB eqTF was a b).getD (false, FieldM.zero)).1, .int .i64 ((settleB eqTF was a b).getD (false, FieldM.zero)).2.id, .string ((settleB eqTF was a b).getD (false, FieldM.zero)).2.name, .string ((settleB eqTF was a b).getD (false, FieldM.zero)).2.type, .int .i64 ((settleB eqTF was a b).getD (false, FieldM.zero)).2.kind, .int .i64 ((settleB eqTF was a b).getD (false, FieldM.zero)).2.rule], .bool (settleB eqTF was a b).isSome]) ∧ Ext w w' := by
  have q := eqlF
  generalize hR : settleB eqTF was a b = R
  unfold settleB at hR
  have HR := hide hR
  clear hR
  have hx : ∀ o1 o2 o3 o4 : Obj, Ext w ((((w.alloc o1).alloc o2).alloc o3).alloc o4) := fun _ _ _ _ => ((((Ext.refl w).alloc _).alloc _).alloc _).alloc _
  cases h1 : eqTF a b
  · cases h2 : eqTF b was
    · cases h3 : eqTF a was
      · have e : R = none := by rw [← unhide HR]; simp [h1, h2, h3]
        subst e
        go_enter Tryd.func42, Tryd.ntmps42
        go_wp2
        refine bodyPost_ret (v := .tuple #[.agg #[.bool (false, FieldM.zero).1, .int .i64 (false, FieldM.zero).2.id, .string (false, FieldM.zero).2.name, .string (false, FieldM.zero).2.type, .int .i64 (false, FieldM.zero).2.kind, .int .i64 (false, FieldM.zero).2.rule], .bool false]) (by simp [results, Tryd.results42, go_sem, FieldM.zero, ItemM.zero]) rfl ⟨rfl, ?_⟩
        exact (hx _ _ _ _).alloc _
      · have e : R = some b := by rw [← unhide HR]; simp [h1, h2, h3]
        subst e
        go_enter Tryd.func42, Tryd.ntmps42
        go_wp2
        exact bodyPost_ret (v := .tuple #[.agg #[.bool b.1, .int .i64 b.2.id, .string b.2.name, .string b.2.type, .int .i64 b.2.kind, .int .i64 b.2.rule], .bool true]) (by simp [results, Tryd.results42, go_sem]) rfl ⟨rfl, hx _ _ _ _⟩
    · have e : R = some a := by rw [← unhide HR]; simp [h1, h2]
      subst e
      go_enter Tryd.func42, Tryd.ntmps42
      go_wp2
      exact bodyPost_ret (v := .tuple #[.agg #[.bool a.1, .int .i64 a.2.id, .string a.2.name, .string a.2.type, .int .i64 a.2.kind, .int .i64 a.2.rule], .bool true]) (by simp [results, Tryd.results42, go_sem]) rfl ⟨rfl, hx _ _ _ _⟩
  · have e : R = some a := by rw [← unhide HR]; simp [h1]
    subst e
    go_enter Tryd.func42, Tryd.ntmps42
    go_wp2
    exact bodyPost_ret (v := .tuple #[.agg #[.bool a.1, .int .i64 a.2.id, .string a.2.name, .string a.2.type, .int .i64 a.2.kind, .int .i64 a.2.rule], .bool true]) (by simp [results, Tryd.results42, go_sem]) rfl ⟨rfl, hx _ _ _ _⟩
set_option maxHeartbeats 3200000 in
theorem settleI_any (was a b : Bool × ItemM) (w : World) :
    Calls Tryd.prog 47 #[.agg #[.bool was.1, .string was.2.name, .int .i64 was.2.n], .agg #[.bool a.1, .string a.2.name, .int .i64 a.2.n], .agg #[.bool b.1, .string b.2.name, .int .i64 b.2.n]] w fun e w' => e = .returned (.tuple #[.agg #[.bool ((settleB eqTI was a b).getD (false, ItemM.zero)).1, .string ((settleB eqTI was a b).getD (false, ItemM.zero)).2.name, .int .i64 ((settleB eqTI was a b).getD (false, ItemM.zero)).2.n], .bool (settleB eqTI was a b).isSome]) ∧ Ext w w' := by
  have q := eqlI
  generalize hR : settleB eqTI was a b = R
  unfold settleB at hR
  have HR := hide hR
  clear hR
  have hx : ∀ o1 o2 o3 o4 : Obj, Ext w ((((w.alloc o1).alloc o2).alloc o3).alloc o4) := fun _ _ _ _ => ((((Ext.refl w).alloc _).alloc _).alloc _).alloc _
  cases h1 : eqTI a b
  · cases h2 : eqTI b was
    · cases h3 : eqTI a was
      · have e : R = none := by rw [← unhide HR]; simp [h1, h2, h3]
        subst e
        go_enter Tryd.func47, Tryd.ntmps47
        go_wp2
        refine bodyPost_ret (v := .tuple #[.agg #[.bool (false, ItemM.zero).1, .string (false, ItemM.zero).2.name, .int .i64 (false, ItemM.zero).2.n], .bool false]) (by simp [results, Tryd.results47, go_sem, FieldM.zero, ItemM.zero]) rfl ⟨rfl, ?_⟩
        exact (hx _ _ _ _).alloc _
      · have e : R = some b := by rw [← unhide HR]; simp [h1, h2, h3]
        subst e
        go_enter Tryd.func47, Tryd.ntmps47
        go_wp2
        exact bodyPost_ret (v := .tuple #[.agg #[.bool b.1, .string b.2.name, .int .i64 b.2.n], .bool true]) (by simp [results, Tryd.results47, go_sem]) rfl ⟨rfl, hx _ _ _ _⟩
    · have e : R = some a := by rw [← unhide HR]; simp [h1, h2]
      subst e
      go_enter Tryd.func47, Tryd.ntmps47
      go_wp2
      exact bodyPost_ret (v := .tuple #[.agg #[.bool a.1, .string a.2.name, .int .i64 a.2.n], .bool true]) (by simp [results, Tryd.results47, go_sem]) rfl ⟨rfl, hx _ _ _ _⟩
  · have e : R = some a := by rw [← unhide HR]; simp [h1]
    subst e
    go_enter Tryd.func47, Tryd.ntmps47
    go_wp2
    exact bodyPost_ret (v := .tuple #[.agg #[.bool a.1, .string a.2.name, .int .i64 a.2.n], .bool true]) (by simp [results, Tryd.results47, go_sem]) rfl ⟨rfl, hx _ _ _ _⟩
set_option maxHeartbeats 800000 in
theorem settleB_any (was a b : Bool) (w : World) :
    Calls Tryd.prog 44 #[.bool was, .bool a, .bool b] w fun e w' => e = .returned (.tuple #[.bool ((settleB eqB was a b).getD false), .bool true]) ∧ w' = w := by
  cases was <;> cases a <;> cases b <;>
  · go_enter Tryd.func44, Tryd.ntmps44
    go_wp2
    refine bodyPost_ret (v := .tuple #[.bool _, .bool true]) (by simp [results, Tryd.results44, go_sem]; rfl) rfl ⟨rfl, rfl⟩
/-- What is there, or not, as a pair. -/
def thF (o : Option FieldM) : Bool × FieldM := (o.isSome, o.getD FieldM.zero)
def thI (o : Option ItemM) : Bool × ItemM := (o.isSome, o.getD ItemM.zero)
theorem eq_thF (x y : Option FieldM) : eqTF (thF x) (thF y) = eqO eqF x y := by
  cases x <;> cases y
  · simp [thF, eqTF, eqO, eqF, FieldM.zero]
  · simp [thF, eqTF, eqO]
  · simp [thF, eqTF, eqO]
  · simp only [thF, eqTF, eqO, Option.isSome_some, beq_self_eq_true, Bool.true_and, Option.getD_some]
theorem eq_thI (x y : Option ItemM) : eqTI (thI x) (thI y) = eqO eqI x y := by
  cases x <;> cases y
  · simp [thI, eqTI, eqO, eqI, ItemM.zero]
  · simp [thI, eqTI, eqO]
  · simp [thI, eqTI, eqO]
  · simp only [thI, eqTI, eqO, Option.isSome_some, beq_self_eq_true, Bool.true_and, Option.getD_some]
theorem settle_thF (was a b : Option FieldM) : settleB eqTF (thF was) (thF a) (thF b) = (settleB (eqO eqF) was a b).map thF := by
  unfold settleB
  rw [eq_thF, eq_thF, eq_thF]
  split
  · rfl
  · split <;> rfl
theorem settle_thI (was a b : Option ItemM) : settleB eqTI (thI was) (thI a) (thI b) = (settleB (eqO eqI) was a b).map thI := by
  unfold settleB
  rw [eq_thI, eq_thI, eq_thI]
  split
  · rfl
  · split <;> rfl
end Go.Proofs.YtblkgaoafejefaaDoor
