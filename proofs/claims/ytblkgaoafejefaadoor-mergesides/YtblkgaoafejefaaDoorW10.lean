import Derived.Test.YtblkgaoafejefaaDoorW9
namespace Go.Proofs.YtblkgaoafejefaaDoor
set_option linter.unusedSimpArgs false
set_option linter.unusedVariables false
open Go.RowKit

theorem hide {p : Prop} (h : p) : Hid p := h
theorem unhide {p : Prop} (h : Hid p) : p := h
theorem leastFold_drop {g : FieldM → Int} {l : List FieldM} {k : Nat} {acc : Int} (hk : k < l.length) :
    leastFold g (l.drop k) acc = if (l[k].rule == 1) = false then leastFold g (l.drop (k + 1)) acc else if g l[k] = 0 then 0 else leastFold g (l.drop (k + 1)) (acc + g l[k]) := by
  rw [List.drop_eq_getElem_cons hk]; rfl

set_option maxHeartbeats 3200000 in
theorem leastWithin_any (s : SV) (ts : BookM) (hn : ts.Fits) (n : Nat) : n ≤ 4 → ∀ (m : Int), m = n → ∀ (name : ByteArray) (w : World), BookAt w s ts →
    Calls Tryd.prog 35 #[.agg #[.slice s.a s.len s.cap], .string name, .int .i64 m] w fun e w' => e = .returned (.int .i64 (leastM ts n name)) ∧ Ext w w' := by
  induction n with
  | zero =>
    intro _ m hm name w hs
    have hm0 : m < 1 := by omega
    clear hm
    go_enter Tryd.func35, Tryd.ntmps35
    go_wp2
    go_ret
    exact ⟨rfl, (Ext.refl w).alloc _⟩
  | succ n ih =>
    intro hn4 m hm name w hs
    have IH : Hid (∀ (m : Int), m = n → ∀ (name : ByteArray) (w : World), BookAt w s ts →
      Calls Tryd.prog 35 #[.agg #[.slice s.a s.len s.cap], .string name, .int .i64 m] w fun e w' => e = .returned (.int .i64 (leastM ts n name)) ∧ Ext w w') := ih (by omega)
    clear ih
    have Hm : Hid (m - 1 = n) := by unfold Hid; omega
    have hm1 : 1 ≤ m := by omega
    have hm4 : m ≤ 4 := by omega
    have hlen := hn.1
    have hx0 : Ext w (w.alloc (.cells #[.slice s.a s.len s.cap] 24)) := (Ext.refl w).alloc _
    clear hm
    go_enter Tryd.func35, Tryd.ntmps35
    go_wp2_with fail
    refine (lookUp_any s ts name _ (hs.ext hx0) (by omega)).mono ?_
    rintro e w1 ⟨tv, rfl, htv, hx1⟩
    have q0 := (hx1.whole (heap_alloc_new _ _)).1 0 (.slice s.a s.len s.cap) rfl
    have hz0 : w.heap.size < w1.heap.size := by have := hx1.size; simp at this; omega
    have hE1 : Ext w w1 := hx0.trans hx1
    cases hf : findM ts name with
    | none =>
      have E : Hid (leastM ts (n + 1) name = 0) := by simp [Hid, leastM, hf]
      clear htv
      simp only [Option.isSome_none]
      go_wp2
      go_ret
      exact ⟨ret_int E.out.symm, hE1.alloc _⟩
    | some t =>
      rw [hf] at htv
      simp only [Option.getD_some] at htv
      simp only [Option.isSome_some]
      have hT := hn.2 t (findM_mem hf)
      have hT1 := hT.fields
      obtain ⟨nm, en, ⟨fa, fl, fc⟩, gs, is⟩ := tv
      have een := htv.enum
      have hfa := htv.fields
      have efl := htv.fields.1
      simp only at een hfa efl
      subst efl
      cases en
      · have een' : t.enum = false := een.symm
        clear een
        by_cases h5 : 5 < t.fields.length
        · have E : Hid (leastM ts (n + 1) name = 0) := by simp [Hid, leastM, hf, h5]
          clear htv hfa een' hf hT
          go_wp2
          go_ret
          exact ⟨ret_int E.out.symm, hE1.alloc _⟩
        have E : Hid (leastM ts (n + 1) name = leastFold (needM ts n) t.fields 1) := by
          unfold Hid leastM
          rw [hf]
          simp only [een']
          rw [if_neg (by simp; omega)]
          rfl
        clear htv een' hf hT
        go_wp2
        go_loopw [9, 36] (fun sm i wr => ∃ (k : Nat) (acc : Int), k ≤ t.fields.length ∧ i = .int .i64 k ∧ sm = .int .i64 acc ∧ 0 ≤ acc ∧ acc ≤ 1 + k * 1296 ∧ leastFold (needM ts n) t.fields 1 = leastFold (needM ts n) (t.fields.drop k) acc ∧ Ext w1 wr) (fun sm i wr => t.fields.length - (intOf i).toNat)
        case atStart => exact ⟨0, 1, by omega, rfl, rfl, by omega, by omega, rfl, (Ext.refl _).alloc _⟩
        case round =>
          obtain ⟨k, acc, hk, rfl, rfl, ha0, ha1, hfold, hx⟩ := hrel
          have Hfold : Hid (leastFold (needM ts n) t.fields 1 = leastFold (needM ts n) (t.fields.drop k) acc) := hfold
          clear hfold
          have hE : Ext w wr := hE1.trans hx
          have q0' := hx.cell q0
          have hz : w.heap.size < wr.heap.size := by have := hx.size; omega
          by_cases hlt : k < t.fields.length
          · obtain ⟨b, o, cs, efa, hr, rfl⟩ := hfa.2 k t.fields[k] (by simp [hlt])
            simp only at efa
            subst efa
            obtain ⟨c0, c1, c2, c3, c4⟩ := range5 (hx.range (hx1.range hr))
            have Hd := hide (leastFold_drop (g := needM ts n) (acc := acc) hlt)
            clear hfa hr
            cases hrule : (t.fields[k].rule == 1)
            · have hrule' : (t.fields[k].rule != 1) = true := by simp [bne, hrule]
              have Hr : Hid ((t.fields[k].rule == 1) = false) := hrule
              clear hrule
              go_wp2
              exact ⟨⟨k + 1, acc, by omega, by go_num, rfl, ha0, by omega, by rw [Hfold.out, unhide Hd, if_pos Hr.out], hx.alloc _⟩, by simp [intOf]; omega⟩
            have hrule' : (t.fields[k].rule != 1) = false := by simp [bne, hrule]
            have Hr : Hid ((t.fields[k].rule == 1) = true) := hrule
            clear hrule
            have hbd := needM_bd ts n (by omega) t.fields[k]
            cases hkind : (t.fields[k].kind == 5)
            · have Hnd : Hid (needM ts n t.fields[k] = 1) := by
                unfold Hid needM; rw [if_neg (by simpa using hkind)]
              clear hbd
              go_wp2
              exact ⟨⟨k + 1, acc + 1, by omega, by go_num, rfl, by omega, by omega, by rw [Hfold.out, unhide Hd, if_neg (by rw [Hr.out]; simp), Hnd.out, if_neg (by omega)], hx.alloc _⟩, by simp [intOf]; omega⟩
            · have Hnd : Hid (needM ts n t.fields[k] = leastM ts n t.fields[k].type) := by
                unfold Hid needM; rw [if_pos (by simpa using hkind)]
              rw [Hnd.out] at hbd
              have hsr := hs.ext (hE.alloc (.cells #[.int .i64 t.fields[k].id, .string t.fields[k].name, .string t.fields[k].type, .int .i64 t.fields[k].kind, .int .i64 t.fields[k].rule] 36))
              go_wp2_with fail
              refine (IH.out (m - 1) Hm.out t.fields[k].type _ hsr).mono ?_
              rintro e w2 ⟨rfl, hx2⟩
              have hEw : Ext w1 w2 := (hx.alloc _).trans hx2
              cases hv : (leastM ts n t.fields[k].type == 0)
              · have Hv : Hid ((leastM ts n t.fields[k].type == 0) = false) := hv
                go_wp2
                exact ⟨⟨k + 1, acc + leastM ts n t.fields[k].type, by omega, by go_num, rfl, by omega, by omega, by rw [Hfold.out, unhide Hd, if_neg (by rw [Hr.out]; simp), Hnd.out, if_neg (by simpa using Hv.out)], hEw⟩, by simp [intOf]; omega⟩
              · have Hv : Hid ((leastM ts n t.fields[k].type == 0) = true) := hv
                go_wp2
                go_ret
                refine ⟨ret_int ?_, hE1.trans hEw⟩
                rw [E.out, Hfold.out, unhide Hd, if_neg (by rw [Hr.out]; simp), Hnd.out, if_pos (by simpa using Hv.out)]
          · go_wp2
            go_ret
            refine ⟨ret_int ?_, hE⟩
            rw [E.out, Hfold.out, List.drop_of_length_le (by omega)]
            rfl
      · have E : Hid (leastM ts (n + 1) name = 0) := by simp [Hid, leastM, hf, ← een]
        clear htv hfa een hf hT
        go_wp2
        go_ret
        exact ⟨ret_int E.out.symm, hE1.alloc _⟩
end Go.Proofs.YtblkgaoafejefaaDoor
