import Derived.Test.YtgobejbboeeieaaA5
namespace Go.Proofs.Ytgobejbboeeieaa
set_option linter.unusedSimpArgs false
set_option linter.unusedVariables false
open Go.RowKit

theorem part_len {p : PartM} (h : p.good) : (partB p).length ≤ 20020 := by
  obtain ⟨id, kind, n, s⟩ := p
  obtain ⟨h1, h2, h3⟩ := h
  simp only at h1 h2 h3
  have e1 : (sev (headN ⟨id, kind, n, s⟩)).length ≤ 6 := sev_len6 (by unfold headN; simp only; omega)
  unfold partB
  rw [List.length_append]
  rcases h3 with ⟨rfl, h4, h5, _⟩ | ⟨h4, rfl, h5⟩
  · have e2 := sev_len6 (fold_lt h4 h5)
    simp only [if_true]; omega
  · have e2 : (sev s.size).length ≤ 6 := sev_len6 (by omega)
    have hk : ¬ kind = 0 := by omega
    simp only [if_neg hk]
    rw [List.length_append, bytes_len]; omega

theorem strCells_eq (s : ByteArray) : Lib.strCells s = bcells s.data.toList := rfl

set_option maxHeartbeats 1600000 in
set_option maxRecDepth 10000 in
theorem appendPart_any (base : Nat) (v : Value) (l : List UInt8) (p : PartM) (w : World) (ho : w.ownsRow base 5 1 v l.length (bcells l)) (hbase : base ≤ w.heap.size) (hl : l.length ≤ 20000) (hg : p.good) :
    Calls Try.prog 16 #[v, .agg #[.int .i64 p.id, .int .i64 p.kind, .int .i64 p.n, .string p.s]] w fun e w' => ∃ v', e = .returned v' ∧ w'.ownsRow base 5 1 v' (l ++ partB p).length (bcells (l ++ partB p)) ∧ Below base w w' ∧ Keeps w w' := by
  have hx0 : Ext w (w.alloc (.cells #[.int .i64 p.id, .int .i64 p.kind, .int .i64 p.n, .string p.s] 27)) := (Ext.refl w).alloc _
  have hb0 : Below base w (w.alloc (.cells #[.int .i64 p.id, .int .i64 p.kind, .int .i64 p.n, .string p.s] 27)) := (Below.refl _ _).alloc hbase _
  have hA0 := heap_alloc_new w (.cells #[.int .i64 p.id, .int .i64 p.kind, .int .i64 p.n, .string p.s] 27)
  have hpl : l.length + (partB p).length ≤ 40020 := by have := part_len hg; omega
  have EB : Hid (partB p = sev (headN p) ++ (if p.kind = 0 then sev (foldN p.n) else sev p.s.size ++ p.s.data.toList)) := rfl
  have hh : headN p < 4398046511104 := by
    obtain ⟨h1, h2, h3⟩ := hg
    unfold headN; omega
  have hsh := sev_len6 hh
  obtain ⟨hd, ehd⟩ : ∃ hd, headN p = hd := ⟨_, rfl⟩
  have Hho := hide (headOf_any p (w.alloc (.cells #[.int .i64 p.id, .int .i64 p.kind, .int .i64 p.n, .string p.s] 27)) hg)
  rw [ehd] at Hho EB hh hsh
  clear ehd
  have hg' := hide hg
  obtain ⟨id, kind, n, s⟩ := p
  simp only at hx0 hb0 hA0 EB Hho
  obtain ⟨h1, h2, h3⟩ := hg
  simp only at h1 h2 h3
  show Calls Try.prog 16 #[v, .agg #[.int .i64 id, .int .i64 kind, .int .i64 n, .string s]] w _
  go_enter Try.func16, Try.ntmps16
  go_wp2_with fail
  refine (unhide Hho).mono ?_
  rintro e w1 ⟨rfl, hx1⟩
  have ho1 := owns_ext ho (hx0.trans hx1)
  have hbz1 : base ≤ w1.heap.size := Nat.le_trans hbase (hx0.trans hx1).size
  go_wp2_with fail
  refine (appendNumber_any base v l hd w1 ho1 hbz1 (by omega) hh).mono ?_
  rintro e w2 ⟨v2, rfl, ho2, hb2, hk2⟩
  have hA2 := hk2 _ _ _ _ (by decide) (hx1.heap hA0)
  obtain ⟨c0, c1, c2, c3, cf⟩ := row4 hA2
  have hbz2 : base ≤ w2.heap.size := Nat.le_trans hbz1 hb2.size
  have hb02 : Below base w w2 := (hb0.trans (hx1.mono (by simp; omega))).trans hb2
  have hk02 : Keeps w w2 := (hx0.trans hx1).keeps.trans hk2
  have hl2 : (l ++ sev hd).length ≤ 100000 := by rw [List.length_append]; omega
  rcases h3 with ⟨rfl, h4, h5, rfl⟩ | ⟨h4, rfl, h5⟩
  · go_wp2_with fail
    refine (fold_any n w2 h4 h5).mono ?_
    rintro e w3 ⟨rfl, rfl⟩
    have hf := fold_lt h4 h5
    go_wp2_with fail
    refine (appendNumber_any base v2 (l ++ sev hd) (foldN n) w3 ho2 hbz2 hl2 hf).mono ?_
    rintro e w4 ⟨v4, rfl, ho4, hb4, hk4⟩
    go_wp2
    go_ret
    refine ⟨v4, rfl, ?_, hb02.trans hb4, hk02.trans hk4⟩
    have e : l ++ partB ⟨id, 0, n, ⟨#[]⟩⟩ = (l ++ sev hd) ++ sev (foldN n) := by rw [unhide EB, if_pos trivial, List.append_assoc]
    rw [e]
    exact ho4
  · have hk0 : ¬ kind = 0 := by omega
    go_wp2_with fail
    refine (appendNumber_any base v2 (l ++ sev hd) s.size w2 ho2 hbz2 hl2 (by omega)).mono ?_
    rintro e w4 ⟨v4, rfl, ho4, hb4, hk4⟩
    have hA4 := hk4 _ _ _ _ (by decide) hA2
    clear c0 c1 c2 c3 cf
    obtain ⟨c0, c1, c2, c3, cf⟩ := row4 hA4
    have hss : (sev s.size).length ≤ 6 := sev_len6 (by omega)
    have hl4 : ((l ++ sev hd) ++ sev s.size).length ≤ 100000 := by rw [List.length_append, List.length_append]; omega
    have hbz4 : base ≤ w4.heap.size := Nat.le_trans hbz2 hb4.size
    obtain ⟨i0, hi, hz0, hz1, hz2⟩ := info_parts info5
    go_wp2_with (at_builtin; refine Lib.wpList_append_own_string w4 rfl _ _ 35 9 rfl base 5 i0 Try.underlying35 Try.underlying9 hi hz0 hz1 hz2 v4 ((l ++ sev hd) ++ sev s.size).length (bcells ((l ++ sev hd) ++ sev s.size)) rfl ho4 s rfl ?c1 ?c2 hbz4 ?_)
    case c1 => unfold maxLen; omega
    case c2 => omega
    intro v5 w5 ho5 hg5 _
    go_wp2
    go_ret
    refine ⟨v5, rfl, ?_, hb02.trans (below_owned hb4 hbz4 hg5 ho4 (Nat.le_refl _)), (hk02.trans hk4).trans (keeps_grown ho4 hg5)⟩
    have e : l ++ partB ⟨id, kind, 0, s⟩ = ((l ++ sev hd) ++ sev s.size) ++ s.data.toList := by rw [unhide EB, if_neg hk0]; simp
    rw [e, List.length_append, bcells_append, bytes_len, List.append_assoc, List.length_append, List.length_append]
    exact ho5
end Go.Proofs.Ytgobejbboeeieaa
