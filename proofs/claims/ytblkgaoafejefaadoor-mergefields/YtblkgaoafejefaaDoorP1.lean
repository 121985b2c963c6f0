import Derived.Test.YtblkgaoafejefaaDoorW12
namespace Go.Proofs.YtblkgaoafejefaaDoor
set_option linter.unusedSimpArgs false
set_option linter.unusedVariables false
theorem bytes_ext {a b : ByteArray} (h : a.data.toList = b.data.toList) : a = b := by
  cases a; cases b; simp only [ByteArray.mk.injEq]; exact Array.toList_inj.1 h

/-- What a book that is good has, as far as merging asks. -/
structure GoodB (ts : BookM) : Prop where
  names : ts.Pairwise fun x y => x.name.toList < y.name.toList
  named : ∀ t ∈ ts, t.name.toList ≠ []
  fields : ∀ t ∈ ts, (t.fields.map (·.id)).Pairwise (· < ·) ∧ ∀ x ∈ t.fields.map (·.id), 1 ≤ x ∧ x ≤ 30
  gone : ∀ t ∈ ts, t.gone.Pairwise (· < ·) ∧ ∀ x ∈ t.gone, 1 ≤ x ∧ x ≤ 30
  apart : ∀ t ∈ ts, ∀ f ∈ t.fields, f.id ∉ t.gone
  items : ∀ t ∈ ts, (t.items.map (·.n)).Pairwise (· < ·)
  enum : ∀ t ∈ ts, t.enum = true → t.fields = [] ∧ t.gone = []
  msg : ∀ t ∈ ts, t.enum = false → t.items = []

/-! ### Rising lists -/
/-- Put into a rising list, once. -/
def insU {α : Type} (lt : α → α → Bool) (x : α) : List α → List α
  | [] => [x]
  | y :: l => if lt x y then x :: y :: l else if lt y x then y :: insU lt x l else y :: l
def unions {α : Type} (lt : α → α → Bool) (l : List α) : List α := l.foldr (insU lt) []
structure Ord3 {α : Type} (lt : α → α → Bool) : Prop where
  irr : ∀ x, lt x x = false
  tr : ∀ x y z, lt x y = true → lt y z = true → lt x z = true
  tot : ∀ x y, lt x y = false → lt y x = false → x = y
theorem mem_insU {α : Type} {lt : α → α → Bool} (o : Ord3 lt) (x z : α) : ∀ l, z ∈ insU lt x l ↔ z = x ∨ z ∈ l
  | [] => by simp [insU]
  | y :: l => by
    unfold insU
    split
    · simp
    · split
      · rw [List.mem_cons, mem_insU o x z l, List.mem_cons]
        constructor
        · rintro (h | h | h)
          · exact .inr (.inl h)
          · exact .inl h
          · exact .inr (.inr h)
        · rintro (h | h | h)
          · exact .inr (.inl h)
          · exact .inl h
          · exact .inr (.inr h)
      · rename_i h1 h2
        have e := o.tot x y (by simpa using h1) (by simpa using h2)
        subst e
        simp
theorem rise_insU {α : Type} {lt : α → α → Bool} (o : Ord3 lt) (x : α) : ∀ l, l.Pairwise (fun a b => lt a b = true) → (insU lt x l).Pairwise fun a b => lt a b = true
  | [], _ => by simp [insU]
  | y :: l, h => by
    rw [List.pairwise_cons] at h
    unfold insU
    split
    · rename_i h1
      refine List.pairwise_cons.2 ⟨fun z hz => ?_, List.pairwise_cons.2 h⟩
      rcases List.mem_cons.1 hz with e | hz
      · exact e ▸ h1
      · exact o.tr _ _ _ h1 (h.1 z hz)
    · split
      · rename_i h1 h2
        refine List.pairwise_cons.2 ⟨fun z hz => ?_, rise_insU o x l h.2⟩
        rcases (mem_insU o x z l).1 hz with e | hz
        · exact e ▸ h2
        · exact h.1 z hz
      · exact List.pairwise_cons.2 h
theorem mem_unions {α : Type} {lt : α → α → Bool} (o : Ord3 lt) (z : α) : ∀ l, z ∈ unions lt l ↔ z ∈ l
  | [] => by simp [unions]
  | x :: l => by
    show z ∈ insU lt x (unions lt l) ↔ _
    rw [mem_insU o, mem_unions o z l, List.mem_cons]
theorem rise_unions {α : Type} {lt : α → α → Bool} (o : Ord3 lt) : ∀ l, (unions lt l).Pairwise fun a b => lt a b = true
  | [] => by simp [unions]
  | x :: l => rise_insU o x _ (rise_unions o l)
/-- Two rising lists of the same are one. -/
theorem rise_same {α : Type} {lt : α → α → Bool} (o : Ord3 lt) : ∀ (l m : List α), l.Pairwise (fun a b => lt a b = true) → m.Pairwise (fun a b => lt a b = true) → (∀ z, z ∈ l ↔ z ∈ m) → l = m
  | [], [], _, _, _ => rfl
  | [], y :: m, _, _, h => by have := (h y).2 (by simp); simp at this
  | x :: l, [], _, _, h => by have := (h x).1 (by simp); simp at this
  | x :: l, y :: m, hl, hm, h => by
    rw [List.pairwise_cons] at hl hm
    have ne : ∀ a b, lt a b = true → a ≠ b := fun a b h e => by subst e; rw [o.irr] at h; cases h
    have e : x = y := by
      rcases List.mem_cons.1 ((h x).1 (by simp)) with e | h1
      · exact e
      · rcases List.mem_cons.1 ((h y).2 (by simp)) with e | h2
        · exact e.symm
        · exact absurd rfl (ne _ _ (o.tr _ _ _ (hl.1 y h2) (hm.1 x h1)))
    subst e
    rw [rise_same o l m hl.2 hm.2 fun z => ?_]
    constructor
    · intro hz
      rcases List.mem_cons.1 ((h z).1 (by simp [hz])) with e | h1
      · exact absurd e.symm (ne _ _ (hl.1 z hz))
      · exact h1
    · intro hz
      rcases List.mem_cons.1 ((h z).2 (by simp [hz])) with e | h1
      · exact absurd e.symm (ne _ _ (hm.1 z hz))
      · exact h1
def ltI (x y : Int) : Bool := decide (x < y)
def ltN (x y : ByteArray) : Bool := decide (x.toList < y.toList)
theorem ordI : Ord3 ltI := ⟨fun x => by simp [ltI], fun x y z h1 h2 => by simp only [ltI, decide_eq_true_eq] at *; omega, fun x y h1 h2 => by simp only [ltI, decide_eq_false_iff_not] at *; omega⟩
theorem name_ext {x y : ByteArray} (h : x.toList = y.toList) : x = y := bytes_ext (by rw [← bytes_toList, ← bytes_toList]; exact h)
theorem ordN : Ord3 ltN := ⟨fun x => by simp [ltN, List.lt_irrefl], fun x y z h1 h2 => by simp only [ltN, decide_eq_true_eq] at *; exact List.lt_trans h1 h2,
  fun x y h1 h2 => by simp only [ltN, decide_eq_false_iff_not, List.not_lt] at *; exact name_ext (List.le_antisymm h2 h1)⟩
theorem unions_same {α : Type} {lt : α → α → Bool} (o : Ord3 lt) {l m : List α} (h : ∀ z, z ∈ l ↔ z ∈ m) : unions lt l = unions lt m :=
  rise_same o _ _ (rise_unions o l) (rise_unions o m) fun z => by rw [mem_unions o, mem_unions o]; exact h z

/-! ### A thing that two have made of one -/
def settleB {α : Type} (eq : α → α → Bool) (was a b : α) : Option α := if eq a b || eq b was then some a else if eq a was then some b else none
def Law {α : Type} (eq : α → α → Bool) : Prop := ∀ x y, eq x y = true ↔ x = y
theorem settle_comm {α : Type} {eq : α → α → Bool} (h : Law eq) (was a b : α) : settleB eq was a b = settleB eq was b a := by
  unfold settleB
  have f : ∀ x y, eq x y = false ↔ ¬ x = y := fun x y => by rw [← h x y]; simp
  by_cases h1 : a = b
  · subst h1; simp [(h a a).2 rfl]
  · by_cases h2 : b = was
    · subst h2
      simp [(h b b).2 rfl, (f a b).2 h1, (f b a).2 (Ne.symm h1)]
    · by_cases h3 : a = was
      · subst h3
        simp [(h a a).2 rfl, (f a b).2 h1, (f b a).2 (Ne.symm h1)]
      · simp [(f a b).2 h1, (f b a).2 (Ne.symm h1), (f _ _).2 h2, (f _ _).2 h3]
theorem settle_1 {α : Type} {eq : α → α → Bool} (h : Law eq) (was c : α) : settleB eq was c was = some c := by
  unfold settleB; simp [(h was was).2 rfl]
theorem settle_2 {α : Type} {eq : α → α → Bool} (h : Law eq) (was c : α) : settleB eq was c c = some c := by
  unfold settleB; simp [(h c c).2 rfl]
theorem settle_3 {α : Type} {eq : α → α → Bool} (h : Law eq) (x y : α) : settleB eq x x y = some y := by
  rw [settle_comm h]; exact settle_1 h x y
/-- What is settled, is as whoever changed it has it. -/
theorem settle_out {α : Type} {eq : α → α → Bool} (h : Law eq) {was a b k : α} (hk : settleB eq was a b = some k) : (was = a → k = b) ∧ (was = b → k = a) ∧ (a = b → k = a) ∧ (was = a ∨ was = b ∨ a = b) := by
  unfold settleB at hk
  have f : ∀ x y, eq x y = false ↔ ¬ x = y := fun x y => by rw [← h x y]; simp
  by_cases h1 : a = b
  · subst h1; simp [(h a a).2 rfl] at hk; subst hk; simp
  · by_cases h2 : b = was
    · subst h2
      simp [(h b b).2 rfl, (f a b).2 h1] at hk
      subst hk
      exact ⟨fun e => e.symm, fun _ => rfl, fun _ => rfl, .inr (.inl rfl)⟩
    · by_cases h3 : a = was
      · subst h3
        simp [(h a a).2 rfl, (f a b).2 h1, (f b a).2 (Ne.symm h1)] at hk
        subst hk
        exact ⟨fun _ => rfl, fun e => e.symm, fun e => e.symm, .inl rfl⟩
      · simp [(f a b).2 h1, (f _ _).2 h2, (f _ _).2 h3] at hk

def eqF (f g : FieldM) : Bool := decide (f.id = g.id) && (f.name.toList == g.name.toList) && (f.type.toList == g.type.toList) && decide (f.kind = g.kind) && decide (f.rule = g.rule)
def eqI (f g : ItemM) : Bool := (f.name.toList == g.name.toList) && decide (f.n = g.n)
def eqO {α : Type} (eq : α → α → Bool) : Option α → Option α → Bool
  | none, none => true
  | some x, some y => eq x y
  | _, _ => false
def eqB (x y : Bool) : Bool := x == y
def eqBB (x y : Bool × Bool) : Bool := (x.1 == y.1) && (x.2 == y.2)
theorem lawF : Law eqF := fun ⟨a, b, c, d, e⟩ ⟨a', b', c', d', e'⟩ => by
  simp only [eqF, Bool.and_eq_true, decide_eq_true_eq, beq_iff_eq, FieldM.mk.injEq]
  exact ⟨fun ⟨⟨⟨⟨h1, h2⟩, h3⟩, h4⟩, h5⟩ => ⟨h1, name_ext h2, name_ext h3, h4, h5⟩, fun ⟨h1, h2, h3, h4, h5⟩ => by subst h1 h2 h3 h4 h5; simp⟩
theorem lawI : Law eqI := fun ⟨a, b⟩ ⟨a', b'⟩ => by
  simp only [eqI, Bool.and_eq_true, decide_eq_true_eq, beq_iff_eq, ItemM.mk.injEq]
  exact ⟨fun ⟨h1, h2⟩ => ⟨name_ext h1, h2⟩, fun ⟨h1, h2⟩ => by subst h1 h2; simp⟩
theorem lawO {α : Type} {eq : α → α → Bool} (h : Law eq) : Law (eqO eq)
  | none, none => by simp [eqO]
  | some x, some y => by simp [eqO, h x y]
  | none, some y => by simp [eqO]
  | some x, none => by simp [eqO]
theorem lawB : Law eqB := fun x y => by simp [eqB]
theorem lawBB : Law eqBB := fun ⟨a, b⟩ ⟨c, d⟩ => by simp [eqBB]

/-! ### Three types of one name -/
structure TS where
  was : TypeM
  a : TypeM
  b : TypeM
def TS.swap (s : TS) : TS := ⟨s.was, s.b, s.a⟩
def itemM (t : TypeM) (n : Int) : Option ItemM := t.items.find? fun i => i.n == n
def typeIn (t : TypeM) : Bool × Bool := (!(t.name.toList == []), t.enum)
def idKept (s : TS) (id : Int) : Option (Option FieldM) := settleB (eqO eqF) (fieldM s.was id) (fieldM s.a id) (fieldM s.b id)
def idGone (s : TS) (id : Int) : Bool := (settleB eqB (s.was.gone.contains id) (s.a.gone.contains id) (s.b.gone.contains id)).getD false
def idFlaw (s : TS) (id : Int) : Bool := match idKept s id with
  | none => true
  | some o => o.isSome && idGone s id
def idsTo (k : Nat) : List Int := (List.range k).map fun i : Nat => (i : Int) + 1
def fieldFlawsTo (s : TS) (k : Nat) : List Int := (idsTo k).filter (idFlaw s)
def fieldsTo (s : TS) (k : Nat) : List FieldM := (idsTo k).filterMap fun id => if idFlaw s id then none else (idKept s id).getD none
def goneTo (s : TS) (k : Nat) : List Int := (idsTo k).filter fun id => !idFlaw s id && idGone s id
def numbersM (s : TS) : List Int := unions ltI (s.was.items.map (·.n) ++ s.a.items.map (·.n) ++ s.b.items.map (·.n))
def itKept (s : TS) (n : Int) : Option (Option ItemM) := settleB (eqO eqI) (itemM s.was n) (itemM s.a n) (itemM s.b n)
def itemFlawsOf (s : TS) (l : List Int) : List Int := l.filter fun n => (itKept s n).isNone
def itemsOf (s : TS) (l : List Int) : List ItemM := l.filterMap fun n => (itKept s n).getD none
def typeKept (s : TS) : Option (Bool × Bool) := settleB eqBB (typeIn s.was) (typeIn s.a) (typeIn s.b)
def misplacedB (there enum : Bool) (nf ng ni : Nat) : Bool :=
  if !there then (decide (0 < nf) || decide (0 < ng)) || decide (0 < ni) else if enum then decide (0 < nf) || decide (0 < ng) else decide (0 < ni)
def typeOut (name : ByteArray) (s : TS) (enum : Bool) : TypeM := ⟨name, enum, fieldsTo s 30, goneTo s 30, itemsOf s (numbersM s)⟩
def flawIds (s : TS) : List Int := fieldFlawsTo s 30 ++ itemFlawsOf s (numbersM s)
/-- The type that comes of three, whether it is there, and its flaws. -/
def mergedM (name : ByteArray) (s : TS) : TypeM × Bool × List Int := match typeKept s with
  | none => (TypeM.zero, false, [0])
  | some (there, enum) => (typeOut name s enum, there, if (flawIds s).isEmpty && misplacedB there enum (fieldsTo s 30).length (goneTo s 30).length (itemsOf s (numbersM s)).length then [0] else flawIds s)

theorem idKept_swap (s : TS) (id : Int) : idKept s.swap id = idKept s id := settle_comm (lawO lawF) _ _ _
theorem idGone_swap (s : TS) (id : Int) : idGone s.swap id = idGone s id := by
  unfold idGone; rw [show s.swap.was = s.was from rfl, show s.swap.a = s.b from rfl, show s.swap.b = s.a from rfl, settle_comm lawB]
theorem idFlaw_swap (s : TS) (id : Int) : idFlaw s.swap id = idFlaw s id := by unfold idFlaw; rw [idKept_swap, idGone_swap]
theorem itKept_swap (s : TS) (n : Int) : itKept s.swap n = itKept s n := settle_comm (lawO lawI) _ _ _
theorem numbers_swap (s : TS) : numbersM s.swap = numbersM s := unions_same ordI fun z => by
  simp only [show s.swap.was = s.was from rfl, show s.swap.a = s.b from rfl, show s.swap.b = s.a from rfl, List.mem_append]
  constructor
  · rintro ((h | h) | h)
    · exact .inl (.inl h)
    · exact .inr h
    · exact .inl (.inr h)
  · rintro ((h | h) | h)
    · exact .inl (.inl h)
    · exact .inr h
    · exact .inl (.inr h)
theorem merged_swap (name : ByteArray) (s : TS) : mergedM name s.swap = mergedM name s := by
  have e1 : fieldsTo s.swap 30 = fieldsTo s 30 := by unfold fieldsTo; simp only [idFlaw_swap, idKept_swap]
  have e2 : goneTo s.swap 30 = goneTo s 30 := by unfold goneTo; simp only [idFlaw_swap, idGone_swap]
  have e3 : itemsOf s.swap (numbersM s.swap) = itemsOf s (numbersM s) := by unfold itemsOf; simp only [itKept_swap, numbers_swap]
  have e4 : flawIds s.swap = flawIds s := by
    unfold flawIds fieldFlawsTo itemFlawsOf
    rw [numbers_swap, show idFlaw s.swap = idFlaw s from funext (idFlaw_swap s), show (fun n => (itKept s.swap n).isNone) = (fun n => (itKept s n).isNone) from funext fun n => by rw [itKept_swap]]
  have e5 : typeKept s.swap = typeKept s := settle_comm lawBB _ _ _
  unfold mergedM
  rw [e5]
  simp only [typeOut, e1, e2, e3, e4]

/-! ### Three books -/
def findZ (ts : BookM) (name : ByteArray) : TypeM := (findM ts name).getD TypeM.zero
def tsOf (was a b : BookM) (name : ByteArray) : TS := ⟨findZ was name, findZ a name, findZ b name⟩
def namesM (was a b : BookM) : List ByteArray := unions ltN (was.map (·.name) ++ a.map (·.name) ++ b.map (·.name))
def outOf (was a b : BookM) (l : List ByteArray) : BookM := l.filterMap fun n => if (mergedM n (tsOf was a b n)).2.1 then some (mergedM n (tsOf was a b n)).1 else none
def flawsOf (was a b : BookM) (l : List ByteArray) : List (ByteArray × Int) := l.flatMap fun n => (mergedM n (tsOf was a b n)).2.2.map fun i => (n, i)
def booksM (was a b : BookM) : BookM × List (ByteArray × Int) × Int :=
  if goodM was ≠ 0 ∨ goodM a ≠ 0 ∨ goodM b ≠ 0 then ([], [], 1)
  else if flawsOf was a b (namesM was a b) ≠ [] then ([], flawsOf was a b (namesM was a b), 9)
  else if goodM (outOf was a b (namesM was a b)) ≠ 0 then ([], [], goodM (outOf was a b (namesM was a b)))
  else (outOf was a b (namesM was a b), [], 0)
theorem names_swap (was a b : BookM) : namesM was b a = namesM was a b := unions_same ordN fun z => by
  simp only [List.mem_append]
  constructor
  · rintro ((h | h) | h)
    · exact .inl (.inl h)
    · exact .inr h
    · exact .inl (.inr h)
  · rintro ((h | h) | h)
    · exact .inl (.inl h)
    · exact .inr h
    · exact .inl (.inr h)
/-- It does not matter whose is which. -/
theorem books_swap (was a b : BookM) : booksM was b a = booksM was a b := by
  have e1 : ∀ n, mergedM n (tsOf was b a n) = mergedM n (tsOf was a b n) := fun n => merged_swap n (tsOf was a b n)
  have e2 : outOf was b a = outOf was a b := by funext l; unfold outOf; simp only [e1]
  have e3 : flawsOf was b a = flawsOf was a b := by funext l; unfold flawsOf; simp only [e1]
  unfold booksM
  rw [names_swap, e2, e3]
  by_cases h1 : goodM was = 0 <;> by_cases h2 : goodM a = 0 <;> by_cases h3 : goodM b = 0 <;> simp [h1, h2, h3]
end Go.Proofs.YtblkgaoafejefaaDoor
