import Derived.Test.YtmdpdgldmedebaaGreatDoorM30
import Derived.Maps.OwnSet
namespace Go.Proofs.YtmdpdgldmedebaaGreatDoor
set_option linter.unusedSimpArgs false
set_option linter.unusedVariables false
set_option linter.unusedSimpArgs false
set_option linter.unusedVariables false
open Go.RowKit

theorem goodTypeR_any (s : SV) (ts : BookM) (tv : TV) (t : TypeM) (w : World) (hs : BookAt w s ts) (ht : TypeAt w tv t) (hn : t.Small) (hnb : ts.length ≤ 1048576) (hm : MaxAt w) :
    Calls Tryz.prog 48 #[.agg #[.slice s.a s.len s.cap], .agg #[.string tv.name, .bool tv.enum, .slice tv.fields.a tv.fields.len tv.fields.cap, .slice tv.gone.a tv.gone.len tv.gone.cap, .slice tv.items.a tv.items.len tv.items.cap]] w fun e w' => e = .returned (.bool (if t.enum then goodEnumM t else goodMessageM ts t)) ∧ Ext w w' := by
  cases he : t.enum
  · exact goodTypeR_msg s ts tv t w hs ht he hn hnb hm
  · exact goodTypeR_enum s tv t w ht he hn hm

end Go.Proofs.YtmdpdgldmedebaaGreatDoor

namespace Go.Proofs.YtmdpdgldmedebaaGreatDoor
set_option linter.unusedSimpArgs false
set_option linter.unusedVariables false
open Go.RowKit Go.Maps

def klOf (s : ByteArray) : Lit := .string s.data.toList
theorem klOf_inj {a b : ByteArray} (h : klOf a = klOf b) : a = b := by
  unfold klOf at h
  have h1 := Lit.string.inj h
  cases a; cases b; simp at h1; rw [h1]
def MapIs (w : World) (B n : Nat) (g : ByteArray → Option Int) : Prop :=
  ∃ D : DataW Unit, w.ownsMap Tryz.prog 9 (plainElem Tryz.prog 3) B n D ∧ ∀ s : ByteArray, D.atKey (klOf s) (.lit (.int .i64 0)) = .lit (.int .i64 ((g s).getD 0)) ∧ Maps.has D (klOf s) = (g s).isSome
theorem MapIs.made (w : World) : MapIs (w.alloc (.map #[] 0)) w.heap.size 0 (fun _ => none) :=
  ⟨.map [], World.ownsMap_made _ _ _ _, fun s => ⟨by simp [DataW.atKey], by simp [Maps.has]⟩⟩
theorem MapIs.kept {w w' : World} {B n : Nat} {g : ByteArray → Option Int} {row : Option Nat} (h : MapIs w B n g) (hg : w.grownBy w' row) (hne : some B ≠ row) : MapIs w' B n g :=
  let ⟨D, h1, h2⟩ := h; ⟨D, h1.kept hg hne, h2⟩
theorem MapIs.alloc {w : World} {B n : Nat} {g : ByteArray → Option Int} (h : MapIs w B n g) (o : Obj) : MapIs (w.alloc o) B n g :=
  let ⟨D, h1, h2⟩ := h; ⟨D, h1.alloc o, h2⟩
theorem MapIs.drew {w : World} {B n : Nat} {g : ByteArray → Option Int} (h : MapIs w B n g) : MapIs w.drew B n g :=
  let ⟨D, h1, h2⟩ := h; ⟨D, h1.drew, h2⟩
theorem MapIs.mono {w : World} {B n m : Nat} {g : ByteArray → Option Int} (h : MapIs w B n g) (hm : n ≤ m) : MapIs w B m g :=
  let ⟨D, h1, h2⟩ := h; ⟨D, h1.mono hm, h2⟩
theorem MapIs.lt {w : World} {B n : Nat} {g : ByteArray → Option Int} (h : MapIs w B n g) : B < w.heap.size := let ⟨_, h1, _⟩ := h; h1.lt
theorem key_lit (s : ByteArray) : WideAt.IsKeyLit (klOf s) := by
  unfold klOf; simp [WideAt.IsKeyLit]
def setAt (g : ByteArray → Option Int) (k : ByteArray) (v : Int) : ByteArray → Option Int := fun s => if k.toList = s.toList then some v else g s
theorem put_tells {D : DataW Unit} {g : ByteArray → Option Int} (hD : IsMap D) (h : ∀ s : ByteArray, D.atKey (klOf s) (.lit (.int .i64 0)) = .lit (.int .i64 ((g s).getD 0)) ∧ Maps.has D (klOf s) = (g s).isSome) (k : ByteArray) (v : Int) :
    ∀ s : ByteArray, (D.put (klOf k) (.lit (.int .i64 v))).atKey (klOf s) (.lit (.int .i64 0)) = .lit (.int .i64 ((setAt g k v s).getD 0)) ∧ Maps.has (D.put (klOf k) (.lit (.int .i64 v))) (klOf s) = (setAt g k v s).isSome := fun s => by
  unfold setAt
  by_cases e : k.toList = s.toList
  · have e2 := toList_inj e
    subst e2
    simp [atKey_put_same hD (key_lit k), has_put_same hD (key_lit k)]
  · have hne : klOf s ≠ klOf k := fun h => e (by rw [klOf_inj h])
    rw [if_neg e, atKey_put_other hne, has_put_other hne]
    exact h s
theorem MapIs.put {w' : World} {B n : Nat} {D : DataW Unit} {g : ByteArray → Option Int} {k : ByteArray} {v : Int} (hD : IsMap D) (h : ∀ s : ByteArray, D.atKey (klOf s) (.lit (.int .i64 0)) = .lit (.int .i64 ((g s).getD 0)) ∧ Maps.has D (klOf s) = (g s).isSome)
    (h' : w'.ownsMap Tryz.prog 9 (plainElem Tryz.prog 3) B n (D.put (klOf k) (.lit (.int .i64 v)))) : MapIs w' B n (setAt g k v) := ⟨_, h', put_tells hD h k v⟩

/-- What one more round of LeastIn's knows of a type: n, and whether it ends. -/
def roundN (known : ByteArray → Int) (l : List FieldM) (acc : Int) : Int := l.foldl (fun a f => if f.rule ≠ 1 then a else if f.kind ≠ 5 then a + 1 else a + known f.type) acc
def roundE (known : ByteArray → Int) (l : List FieldM) : Bool := l.all fun f => decide (f.rule ≠ 1) || decide (f.kind ≠ 5) || decide (0 < known f.type)
/-- What a round of LeastIn's says of a type. -/
def valR (known : ByteArray → Int) (t : TypeM) : Int := if t.enum = false ∧ t.fields.length < 6 ∧ roundE known t.fields = true then roundN known t.fields 1 else 0
theorem roundN_cons (known : ByteArray → Int) (f : FieldM) (r : List FieldM) (acc : Int) : roundN known (f :: r) acc = roundN known r (if f.rule ≠ 1 then acc else if f.kind ≠ 5 then acc + 1 else acc + known f.type) := rfl
theorem roundE_cons (known : ByteArray → Int) (f : FieldM) (r : List FieldM) : roundE known (f :: r) = ((decide (f.rule ≠ 1) || decide (f.kind ≠ 5) || decide (0 < known f.type)) && roundE known r) := rfl
theorem leastFold_round (K : ByteArray → Int) (hK : ∀ s, 0 ≤ K s) : ∀ (l : List FieldM) (acc : Int), leastFold (fun f => if f.kind = 5 then K f.type else 1) l acc = if roundE K l = true then roundN K l acc else 0
  | [], acc => by simp [leastFold, roundE, roundN]
  | f :: r, acc => by
    have ih := leastFold_round K hK r
    have h0 := hK f.type
    unfold leastFold
    rw [roundE_cons, roundN_cons]
    by_cases h1 : f.rule = 1
    · by_cases h5 : f.kind = 5
      · by_cases hz : K f.type = 0
        · simp [h1, h5, hz]
        · have hp : 0 < K f.type := by omega
          simp [h1, h5, hz, hp, ih]
      · simp [h1, h5, ih]
    · simp [h1, ih]
theorem leastM_round (ts : BookM) (n : Nat) (name : ByteArray) : leastM ts (n + 1) name = ((findM ts name).map (valR (leastM ts n))).getD 0 := by
  unfold leastM
  cases h : findM ts name with
  | none => rfl
  | some t =>
    simp only [Option.map_some, Option.getD_some]
    unfold valR
    rw [leastFold_round _ (fun s => (leastM_bd ts n s).1)]
    by_cases he : t.enum = true
    · simp [he]
    · have he' : t.enum = false := by simpa using he
      by_cases h5 : 5 < t.fields.length
      · rw [if_pos (.inr h5), if_neg (by omega)]
      · rw [if_neg (by simp [he']; omega)]
        by_cases hr : roundE (leastM ts n) t.fields = true
        · rw [if_pos hr, if_pos ⟨he', by omega, hr⟩]
        · rw [if_neg hr, if_neg (fun h => hr h.2.2)]
/-- What is known of the first k types. -/
def nextM (known : ByteArray → Int) (ts : BookM) (k : Nat) : ByteArray → Option Int := fun s => (findM (ts.take k) s).map (valR known)
theorem nextM_zero (known : ByteArray → Int) (ts : BookM) : nextM known ts 0 = fun _ => none := by funext s; simp [nextM, findM]
theorem nextM_all (known : ByteArray → Int) (ts : BookM) (n : Nat) (hk : known = leastM ts n) (k : Nat) (h : ts.length ≤ k) : (fun s => (nextM known ts k s).getD 0) = leastM ts (n + 1) := by
  subst hk
  funext s
  rw [leastM_round, nextM, List.take_of_length_le h]
theorem findM_snoc (l : BookM) (t : TypeM) (s : ByteArray) : findM (l ++ [t]) s = (findM l s).or (if t.name.toList == s.toList then some t else none) := by
  unfold findM
  rw [List.find?_append]
  cases List.find? (fun t => t.name.toList == s.toList) l <;> simp [List.find?_cons] <;> split <;> simp_all
theorem nextM_skip {known : ByteArray → Int} {ts : BookM} {k : Nat} (hk : k < ts.length) (h : (nextM known ts k ts[k].name).isSome = true) : nextM known ts (k + 1) = nextM known ts k := by
  funext s
  unfold nextM at h ⊢
  rw [List.take_succ_eq_append_getElem hk, findM_snoc]
  by_cases e : ts[k].name.toList = s.toList
  · have e2 := toList_inj e
    rw [e2] at h
    cases hf : findM (ts.take k) s with
    | none => rw [hf] at h; simp at h
    | some t => simp
  · have : (ts[k].name.toList == s.toList) = false := by simpa using e
    rw [this]; simp
theorem nextM_set {known : ByteArray → Int} {ts : BookM} {k : Nat} (hk : k < ts.length) (h : (nextM known ts k ts[k].name).isSome = false) : nextM known ts (k + 1) = setAt (nextM known ts k) ts[k].name (valR known ts[k]) := by
  funext s
  unfold nextM setAt at *
  rw [List.take_succ_eq_append_getElem hk, findM_snoc]
  by_cases e : ts[k].name.toList = s.toList
  · have e2 := toList_inj e
    rw [if_pos e]
    rw [e2] at h
    have hn : findM (ts.take k) s = none := by
      cases hf : findM (ts.take k) s with
      | none => rfl
      | some t => rw [hf] at h; simp at h
    rw [hn]; simp [e]
  · have : (ts[k].name.toList == s.toList) = false := by simpa using e
    rw [this, if_neg e]; simp
theorem setAt_twice (g : ByteArray → Option Int) (k : ByteArray) (a b : Int) : setAt (setAt g k a) k b = setAt g k b := by
  funext s; unfold setAt; split <;> rfl
end Go.Proofs.YtmdpdgldmedebaaGreatDoor

