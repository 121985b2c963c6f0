import Derived.Test.YtblkgaoafejefaaDoorA2
namespace Go.Proofs.YtblkgaoafejefaaDoor
set_option linter.unusedSimpArgs false
set_option linter.unusedVariables false
open Go.RowKit

def FieldM.nil : FieldM := ⟨0, ⟨#[]⟩, ⟨#[]⟩, 0, 0⟩
theorem neqF : NeqAt Tryd.prog 36 (fun f : FieldM => .agg f.cells.toArray) eqF := by
  refine ⟨fun x y w => ?_, GuardAt.agg (fun f : FieldM => f.cells.toArray) (by kernel_rfl)⟩
  · obtain ⟨i, nm, ty, kd, ru⟩ := x
    obtain ⟨i2, nm2, ty2, kd2, ru2⟩ := y
    unfold eqF
    by_cases h1 : i = i2
    case neg => simp [go_sem, h1]
    by_cases h2 : nm.toList = nm2.toList
    case neg => simp [go_sem, h1, h2]
    by_cases h3 : ty.toList = ty2.toList
    case neg => simp [go_sem, h1, h2, h3]
    by_cases h4 : kd = kd2
    case neg => simp [go_sem, h1, h2, h3, h4]
    by_cases h5 : ru = ru2
    case neg => simp [go_sem, h1, h2, h3, h4, h5]
    simp [go_sem, h1, h2, h3, h4, h5]
theorem neqI : NeqAt Tryd.prog 73 (fun f : ItemM => .agg f.cells.toArray) eqI := by
  refine ⟨fun x y w => ?_, GuardAt.agg (fun f : ItemM => f.cells.toArray) (by kernel_rfl)⟩
  · obtain ⟨nm, i⟩ := x
    obtain ⟨nm2, i2⟩ := y
    unfold eqI
    by_cases h1 : nm.toList = nm2.toList
    case neg => simp [go_sem, h1]
    by_cases h2 : i = i2
    case neg => simp [go_sem, h1, h2]
    simp [go_sem, h1, h2]
/-- slices.Equal at fields. -/
theorem equalF_any (s s' : SV) (l l' : List FieldM) (w : World) (h : FieldsAt w s l) (h' : FieldsAt w s' l') (h1 : l.length ≤ 9223372036854775807) (h2 : l'.length ≤ 9223372036854775807) :
    Calls Tryd.prog 49 #[.slice s.a s.len s.cap, .slice s'.a s'.len s'.cap] w fun e w' => e = .returned (.bool (Lib.allEq eqF l l')) ∧ Ext w w' := by
  obtain ⟨a, n, c⟩ := s
  obtain ⟨a', n', c'⟩ := s'
  have hl := h.1
  have hl' := h'.1
  simp only at hl hl'
  subst hl hl'
  by_cases hne : l.length = l'.length
  · by_cases h0 : l = []
    · subst h0
      have : l' = [] := List.length_eq_zero_iff.1 hne.symm
      subst this
      clear h h' hne
      go_enter Tryd.func49, Tryd.ntmps49
      go_wp2
      go_loopw [13] (fun i wr => i = .int .i64 0 ∧ wr = w) (fun _ _ => 0)
      case atStart => exact ⟨rfl, rfl⟩
      case round =>
        obtain ⟨rfl, rfl⟩ := hrel
        go_wp2
        go_ret
        exact ⟨rfl, Ext.refl _⟩
    · obtain ⟨x, m, rfl⟩ : ∃ x m, l = x :: m := by cases l with | nil => exact absurd rfl h0 | cons x m => exact ⟨x, m, rfl⟩
      obtain ⟨y, m', rfl⟩ : ∃ y m, l' = y :: m := by cases l' with | nil => simp at hne | cons x m => exact ⟨x, m, rfl⟩
      obtain ⟨b, o, _, ha, _, _⟩ := h.2 0 x rfl
      obtain ⟨b', o', _, ha', _, _⟩ := h'.2 0 y rfl
      simp only at ha ha'
      subst ha ha'
      have hinh : Inhabited FieldM := ⟨FieldM.nil⟩
      refine (AnyQ.slices_Equal Tryd.eqFs 5 (fun w => Tryd.isAgg36 w) (fun w => Tryd.sizeOf36 w) FieldM.cells (fun _ => rfl) eqF neqF b o _ c b' o' _ c' (x :: m) (y :: m') w (Nat.le_refl _) (Nat.le_refl _) h1 h2 (fun j hj i v hv => ?_) (fun j hj i v hv => ?_)).mono ?_
      · obtain ⟨b2, o2, cs, e, hr, rfl⟩ := h.2 j (x :: m)[j] (by simp [hj])
        cases e
        rw [getElem!_pos (x :: m) j hj] at hv
        exact hr i v hv
      · obtain ⟨b2, o2, cs, e, hr, rfl⟩ := h'.2 j (y :: m')[j] (by simp [hj])
        cases e
        rw [getElem!_pos (y :: m') j hj] at hv
        exact hr i v hv
      · rintro e w1 ⟨rfl, q, rfl⟩
        rw [List.take_length, List.take_length]
        exact ⟨rfl, (Ext.refl w).drewN q⟩
  · rw [Lib.allEq_len _ _ _ hne]
    clear h h'
    have hne' : ¬ (l.length : Int) = (l'.length : Int) := by omega
    go_enter Tryd.func49, Tryd.ntmps49
    go_wp2
    go_ret
    exact ⟨rfl, Ext.refl w⟩
/-- slices.Equal at items. -/
theorem equalI_any (s s' : SV) (l l' : List ItemM) (w : World) (h : ItemsAt w s l) (h' : ItemsAt w s' l') (h1 : l.length ≤ 9223372036854775807) (h2 : l'.length ≤ 9223372036854775807) :
    Calls Tryd.prog 51 #[.slice s.a s.len s.cap, .slice s'.a s'.len s'.cap] w fun e w' => e = .returned (.bool (Lib.allEq eqI l l')) ∧ Ext w w' := by
  obtain ⟨a, n, c⟩ := s
  obtain ⟨a', n', c'⟩ := s'
  have hl := h.1
  have hl' := h'.1
  simp only at hl hl'
  subst hl hl'
  by_cases hne : l.length = l'.length
  · by_cases h0 : l = []
    · subst h0
      have : l' = [] := List.length_eq_zero_iff.1 hne.symm
      subst this
      clear h h' hne
      go_enter Tryd.func51, Tryd.ntmps51
      go_wp2
      go_loopw [13] (fun i wr => i = .int .i64 0 ∧ wr = w) (fun _ _ => 0)
      case atStart => exact ⟨rfl, rfl⟩
      case round =>
        obtain ⟨rfl, rfl⟩ := hrel
        go_wp2
        go_ret
        exact ⟨rfl, Ext.refl _⟩
    · obtain ⟨x, m, rfl⟩ : ∃ x m, l = x :: m := by cases l with | nil => exact absurd rfl h0 | cons x m => exact ⟨x, m, rfl⟩
      obtain ⟨y, m', rfl⟩ : ∃ y m, l' = y :: m := by cases l' with | nil => simp at hne | cons x m => exact ⟨x, m, rfl⟩
      obtain ⟨b, o, _, ha, _, _⟩ := h.2 0 x rfl
      obtain ⟨b', o', _, ha', _, _⟩ := h'.2 0 y rfl
      simp only at ha ha'
      subst ha ha'
      have hinh : Inhabited ItemM := ⟨⟨⟨#[]⟩, 0⟩⟩
      refine (AnyQ.slices_Equal Tryd.eqIs 2 (fun w => Tryd.isAgg73 w) (fun w => Tryd.sizeOf73 w) ItemM.cells (fun _ => rfl) eqI neqI b o _ c b' o' _ c' (x :: m) (y :: m') w (Nat.le_refl _) (Nat.le_refl _) h1 h2 (fun j hj i v hv => ?_) (fun j hj i v hv => ?_)).mono ?_
      · obtain ⟨b2, o2, cs, e, hr, rfl⟩ := h.2 j (x :: m)[j] (by simp [hj])
        cases e
        rw [getElem!_pos (x :: m) j hj] at hv
        exact hr i v hv
      · obtain ⟨b2, o2, cs, e, hr, rfl⟩ := h'.2 j (y :: m')[j] (by simp [hj])
        cases e
        rw [getElem!_pos (y :: m') j hj] at hv
        exact hr i v hv
      · rintro e w1 ⟨rfl, q, rfl⟩
        rw [List.take_length, List.take_length]
        exact ⟨rfl, (Ext.refl w).drewN q⟩
  · rw [Lib.allEq_len _ _ _ hne]
    clear h h'
    have hne' : ¬ (l.length : Int) = (l'.length : Int) := by omega
    go_enter Tryd.func51, Tryd.ntmps51
    go_wp2
    go_ret
    exact ⟨rfl, Ext.refl w⟩
/-- slices.Equal at numbers. -/
theorem equalN_any (s s' : SV) (l l' : List Int) (w : World) (h : IntsAt w s l) (h' : IntsAt w s' l') (h1 : l.length ≤ 9223372036854775807) (h2 : l'.length ≤ 9223372036854775807) :
    Calls Tryd.prog 50 #[.slice s.a s.len s.cap, .slice s'.a s'.len s'.cap] w fun e w' => e = .returned (.bool (l == l')) ∧ Ext w w' := by
  obtain ⟨a, n, c⟩ := s
  obtain ⟨a', n', c'⟩ := s'
  have hl := h.1
  have hl' := h'.1
  simp only at hl hl'
  subst hl hl'
  by_cases hne : l.length = l'.length
  · by_cases h0 : l = []
    · subst h0
      have : l' = [] := List.length_eq_zero_iff.1 hne.symm
      subst this
      refine (Tryd.slices_Equal_int_empty a a' c 0 c' w (by decide)).mono ?_
      rintro e w1 ⟨rfl, e1⟩
      rw [e1]
      exact ⟨rfl, Ext.refl w⟩
    · obtain ⟨x, m, rfl⟩ : ∃ x m, l = x :: m := by cases l with | nil => exact absurd rfl h0 | cons x m => exact ⟨x, m, rfl⟩
      obtain ⟨y, m', rfl⟩ : ∃ y m, l' = y :: m := by cases l' with | nil => simp at hne | cons x m => exact ⟨x, m, rfl⟩
      obtain ⟨b, o, _, ha, _, _⟩ := h.2 0 x rfl
      obtain ⟨b', o', _, ha', _, _⟩ := h'.2 0 y rfl
      simp only at ha ha'
      subst ha ha'
      refine (Tryd.slices_Equal_int b o _ c b' o' _ c' (x :: m) (y :: m') w (Nat.le_refl _) (Nat.le_refl _) h1 h2 (fun j hj => ?_) (fun j hj => ?_)).mono ?_
      · obtain ⟨b2, o2, cs, e, hr, rfl⟩ := h.2 j (x :: m)[j] (by simp [hj])
        cases e
        have := hr 0 _ rfl
        rw [List.getD_eq_getElem?_getD, List.getElem?_eq_getElem hj]
        simpa using this
      · obtain ⟨b2, o2, cs, e, hr, rfl⟩ := h'.2 j (y :: m')[j] (by simp [hj])
        cases e
        have := hr 0 _ rfl
        rw [List.getD_eq_getElem?_getD, List.getElem?_eq_getElem hj]
        simpa using this
      · rintro e w1 ⟨rfl, q, rfl⟩
        rw [List.take_length, List.take_length]
        exact ⟨rfl, (Ext.refl w).drewN q⟩
  · have e : (l == l') = false := by
      cases e : (l == l') with
      | false => rfl
      | true => exact absurd (congrArg List.length (eq_of_beq e)) hne
    rw [e]
    refine (Tryd.slices_Equal_int_lens a a' _ c _ c' w hne).mono ?_
    rintro e w1 ⟨rfl, rfl⟩
    exact ⟨rfl, Ext.refl _⟩
def sameTypeB (t u : TypeM) : Bool := (t.name.toList == u.name.toList) && (t.enum == u.enum) && Lib.allEq eqF t.fields u.fields && (t.gone == u.gone) && Lib.allEq eqI t.items u.items
set_option maxHeartbeats 3200000 in
theorem sameTypeG_any (tv tv' : TV) (t u : TypeM) (w : World) (h : TypeAt w tv t) (h' : TypeAt w tv' u) (n : t.Fits) (n' : u.Fits) :
    Calls Tryd.prog 31 #[.agg #[.string tv.name, .bool tv.enum, .slice tv.fields.a tv.fields.len tv.fields.cap, .slice tv.gone.a tv.gone.len tv.gone.cap, .slice tv.items.a tv.items.len tv.items.cap], .agg #[.string tv'.name, .bool tv'.enum, .slice tv'.fields.a tv'.fields.len tv'.fields.cap, .slice tv'.gone.a tv'.gone.len tv'.gone.cap, .slice tv'.items.a tv'.items.len tv'.items.cap]] w fun e w' => e = .returned (.bool (sameTypeB t u)) ∧ Ext w w' := by
  obtain ⟨nm, en, fs, gs, is⟩ := tv
  obtain ⟨nm', en', fs', gs', is'⟩ := tv'
  obtain ⟨W, hW⟩ : ∃ W, W = (w.alloc (.cells #[.string nm, .bool en, .slice fs.a fs.len fs.cap, .slice gs.a gs.len gs.cap, .slice is.a is.len is.cap] 46)).alloc (.cells #[.string nm', .bool en', .slice fs'.a fs'.len fs'.cap, .slice gs'.a gs'.len gs'.cap, .slice is'.a is'.len is'.cap] 46) := ⟨_, rfl⟩
  have hxW : Ext w W := by rw [hW]; exact ((Ext.refl w).alloc _).alloc _
  have r0 : W.heap[w.heap.size]? = some (.cells #[.string nm, .bool en, .slice fs.a fs.len fs.cap, .slice gs.a gs.len gs.cap, .slice is.a is.len is.cap] 46 (0, 0)) := by rw [hW]; exact heap_alloc2_old _ _ _
  have r1 : W.heap[w.heap.size + 1]? = some (.cells #[.string nm', .bool en', .slice fs'.a fs'.len fs'.cap, .slice gs'.a gs'.len gs'.cap, .slice is'.a is'.len is'.cap] 46 (0, 0)) := by rw [hW]; exact heap_alloc2_new _ _ _
  have e1 := h.name
  have e2 := h.enum
  have e1' := h'.name
  have e2' := h'.enum
  simp only at e1 e2 e1' e2'
  have F := fun w' (hx : Ext w w') => equalF_any fs fs' t.fields u.fields w' (h.fields.ext hx) (h'.fields.ext hx) n.fields n'.fields
  have G := fun w' (hx : Ext w w') => equalN_any gs gs' t.gone u.gone w' (h.gone.ext hx) (h'.gone.ext hx) n.gone n'.gone
  have I := fun w' (hx : Ext w w') => equalI_any is is' t.items u.items w' (h.items.ext hx) (h'.items.ext hx) n.items n'.items
  obtain ⟨R, hR⟩ : ∃ R, R = sameTypeB t u := ⟨_, rfl⟩
  rw [← hR]
  unfold sameTypeB at hR
  rw [← e1, ← e2, ← e1', ← e2'] at hR
  generalize Lib.allEq eqF t.fields u.fields = x1 at *
  generalize (t.gone == u.gone) = x2 at *
  generalize Lib.allEq eqI t.items u.items = x3 at *
  have HR := hide hR
  have HW := hide hW
  clear hR hW h h' e1 e2 e1' e2' n n'
  obtain ⟨a0, a1, a2, a3, a4, af⟩ := row5 r0
  obtain ⟨b0, b1, b2, b3, b4, bf⟩ := row5 r1
  go_enter Tryd.func31, Tryd.ntmps31
  by_cases h1 : nm.toList = nm'.toList
  · by_cases h2 : en = en'
    · subst h2
      go_wp2_with fail
      rw [← unhide HW]
      refine (F W hxW).mono ?_
      rintro e W1 ⟨rfl, y1⟩
      have hx1 := hxW.trans y1
      have a3 := y1.cell a3
      have a4 := y1.cell a4
      have b3 := y1.cell b3
      have b4 := y1.cell b4
      cases x1 with
      | false =>
        go_wp2
        go_ret
        exact ⟨ret_bool (by rw [unhide HR]; simp), hx1⟩
      | true =>
        go_wp2_with fail
        refine (G W1 hx1).mono ?_
        rintro e W2 ⟨rfl, y2⟩
        have hx2 := hx1.trans y2
        have a4 := y2.cell a4
        have b4 := y2.cell b4
        cases x2 with
        | false =>
          go_wp2
          go_ret
          exact ⟨ret_bool (by rw [unhide HR]; simp), hx2⟩
        | true =>
          go_wp2_with fail
          refine (I W2 hx2).mono ?_
          rintro e W3 ⟨rfl, y3⟩
          go_wp2
          go_ret
          exact ⟨ret_bool (by rw [unhide HR]; simp [h1]), hx2.trans y3⟩
    · go_wp2
      rw [← unhide HW]
      go_ret
      exact ⟨ret_bool (by rw [unhide HR]; simp [h2]), hxW⟩
  · go_wp2
    rw [← unhide HW]
    go_ret
    exact ⟨ret_bool (by rw [unhide HR]; simp [h1]), hxW⟩
end Go.Proofs.YtblkgaoafejefaaDoor
