import Derived.Test.YtblkgaoafejefaaDoorA2
import Derived.Test.YtblkgaoafejefaaDoorOwn2
import Derived.Maps.OwnSet
namespace Go.Proofs.YtblkgaoafejefaaDoor
set_option linter.unusedSimpArgs false
set_option linter.unusedVariables false
open Go.RowKit

theorem Ext.grows {a b : World} (h : Ext a b) (r : Option Nat) : a.grownBy b r := ⟨h.os, h.tape, h.output, h.size, fun i hi _ => Below.block h i hi⟩
theorem grown_trans {a b c : World} {r : Option Nat} (h : a.grownBy b r) (k : b.grownBy c r) : a.grownBy c r :=
  ⟨k.os.trans h.os, k.tape.trans h.tape, k.output.trans h.output, Nat.le_trans h.size k.size, fun i hi hn => (k.block i (Nat.lt_of_lt_of_le hi h.size) hn).trans (h.block i hi hn)⟩
theorem grown_drewN (w : World) (n : Nat) (r : Option Nat) : w.grownBy (w.drewN n) r := ⟨rfl, rfl, rfl, Nat.le_refl _, fun _ _ _ => rfl⟩
theorem kept_some {w w' : World} {base g : Nat} {e : TypeId} {size : Nat} {v : Value} {n : Nat} {xs : List Value} (h : w.ownsRow base e size v n xs) (hg : w.grownBy w' (some g)) (hlt : g < base) : w'.ownsRow base e size v n xs :=
  h.kept hg (by
    cases hb : v.ownBlock with
    | none => exact .inl rfl
    | some k => right; have := (h.lt k hb).1; intro e; cases e; omega)
/-- A block that is not the reader's stays. -/
theorem heap_grown {w w' : World} {g b : Nat} {o : Obj} (hg : w.grownBy w' (some g)) (hb : w.heap[b]? = some o) (hne : b ≠ g) : w'.heap[b]? = some o := by
  rw [hg.block b (lt_of_heap hb) (fun e => hne (Option.some.inj e))]; exact hb
theorem Ext.grownSome {a w w' : World} {g : Nat} (h : Ext a w) (hg : w.grownBy w' (some g)) (hag : a.heap.size ≤ g) : Ext a w' := h.grown hg (fun k e => by cases e; exact hag)
/-- A type that is being read: its five cells in block h, and its three lists in rows of its own, from block 'base' on. -/
structure TyOwn (w : World) (h base : Nat) (tv : TV) (fs : List FieldM) (gs : List Int) (is : List ItemM) : Prop where
  row : w.heap[h]? = some (.cells #[.string tv.name, .bool tv.enum, .slice tv.fields.a tv.fields.len tv.fields.cap, .slice tv.gone.a tv.gone.len tv.gone.cap, .slice tv.items.a tv.items.len tv.items.cap] 46 (0, 0))
  fields : w.ownsRow base 36 5 (.slice tv.fields.a tv.fields.len tv.fields.cap) fs.length (fs.flatMap FieldM.cells)
  gone : w.ownsRow base 3 1 (.slice tv.gone.a tv.gone.len tv.gone.cap) gs.length (gs.flatMap encI)
  items : w.ownsRow base 73 2 (.slice tv.items.a tv.items.len tv.items.cap) is.length (is.flatMap ItemM.cells)
theorem TyOwn.grown {w w' : World} {g h base : Nat} {tv : TV} {fs : List FieldM} {gs : List Int} {is : List ItemM} (t : TyOwn w h base tv fs gs is) (hg : w.grownBy w' (some g)) (hgb : g < base) (hgh : h ≠ g) : TyOwn w' h base tv fs gs is :=
  ⟨heap_grown hg t.row hgh, kept_some t.fields hg hgb, kept_some t.gone hg hgb, kept_some t.items hg hgb⟩
theorem TyOwn.drewN {w : World} {h base : Nat} {tv : TV} {fs : List FieldM} {gs : List Int} {is : List ItemM} (t : TyOwn w h base tv fs gs is) (n : Nat) : TyOwn (w.drewN n) h base tv fs gs is := ⟨t.row, t.fields, t.gone, t.items⟩
/-- Below 'base' nothing has turned but in the blocks g and h. -/
structure Fr (base g h : Nat) (w w' : World) : Prop where
  os : w'.os = w.os
  tape : w'.tape = w.tape
  output : w'.output = w.output
  size : w.heap.size ≤ w'.heap.size
  block : ∀ i, i < base → i ≠ g → i ≠ h → w'.heap[i]? = w.heap[i]?
theorem Fr.refl (base g h : Nat) (w : World) : Fr base g h w w := ⟨rfl, rfl, rfl, Nat.le_refl _, fun _ _ _ _ => rfl⟩
theorem Fr.trans {base g h : Nat} {a b c : World} (x : Fr base g h a b) (y : Fr base g h b c) : Fr base g h a c :=
  ⟨y.os.trans x.os, y.tape.trans x.tape, y.output.trans x.output, Nat.le_trans x.size y.size, fun i h1 h2 h3 => (y.block i h1 h2 h3).trans (x.block i h1 h2 h3)⟩
theorem Fr.of_grown {base g h : Nat} {w w' : World} (hg : w.grownBy w' (some g)) (hb : base ≤ w.heap.size) : Fr base g h w w' :=
  ⟨hg.os, hg.tape, hg.output, hg.size, fun i h1 h2 _ => hg.block i (by omega) (fun e => h2 (Option.some.inj e))⟩
theorem Fr.of_ext {base g h : Nat} {w w' : World} (he : Ext w w') (hb : base ≤ w.heap.size) : Fr base g h w w' := Fr.of_grown (he.grows _) hb
theorem Fr.set {base g h : Nat} (w : World) (o : Nat) (u : Value) : Fr base g h w (w.setCell ⟨h, o, none⟩ u) :=
  ⟨rfl, rfl, rfl, by simp [World.setCell], fun i _ _ h3 => Below.heap_setCell _ _ _ _ h3⟩
theorem Fr.owned {base g h : Nat} {w w' : World} {e : TypeId} {k : Nat} {v : Value} {n : Nat} {xs : List Value} (hg : w.grownBy w' v.ownBlock) (ho : w.ownsRow base e k v n xs) (hb : base ≤ w.heap.size) : Fr base g h w w' :=
  ⟨hg.os, hg.tape, hg.output, hg.size, fun i h1 _ _ => hg.block i (by omega) (fun e => by have := (ho.lt i e.symm).1; omega)⟩
theorem range_of_new2 (w : World) (u0 u1 : Value) (t : TypeId) {g : Nat} (hg : g = w.heap.size) : (w.alloc (.cells #[u0, u1] t)).rangeAt g 0 [u0, u1] := by
  subst hg
  exact World.rangeAt_of_block (heap_alloc_new w _) 0 2
theorem range_of_new5 (w : World) (u0 u1 u2 u3 u4 : Value) (t : TypeId) {g : Nat} (hg : g = w.heap.size) : (w.alloc (.cells #[u0, u1, u2, u3, u4] t)).rangeAt g 0 [u0, u1, u2, u3, u4] := by
  subst hg
  exact World.rangeAt_of_block (heap_alloc_new w _) 0 5
theorem Ext.fr {a w w' : World} {base g h : Nat} (he : Ext a w) (hf : Fr base g h w w') (h1 : a.heap.size ≤ g) (h2 : a.heap.size ≤ h) (h3 : a.heap.size ≤ base) : Ext a w' :=
  ⟨hf.os.trans he.os, hf.tape.trans he.tape, hf.output.trans he.output, Nat.le_trans he.size hf.size, fun i hi => (hf.block i (by omega) (by omega) (by omega)).trans (Below.block he i hi)⟩
theorem tyOwn_zero {w : World} {h base : Nat} {nm : ByteArray} {en : Bool} (hrow : w.heap[h]? = some (.cells #[.string nm, .bool en, .slice none 0 0, .slice none 0 0, .slice none 0 0] 46 (0, 0))) : TyOwn w h base ⟨nm, en, ⟨none, 0, 0⟩, ⟨none, 0, 0⟩, ⟨none, 0, 0⟩⟩ [] [] [] :=
  ⟨hrow, World.ownsRow_nil _ _ _ _, World.ownsRow_nil _ _ _ _, World.ownsRow_nil _ _ _ _⟩
theorem owns_base {w : World} {base base' : Nat} {e : TypeId} {size : Nat} {v : Value} {n : Nat} {xs : List Value} (h : w.ownsRow base e size v n xs) (hb : base' ≤ base) : w.ownsRow base' e size v n xs := by
  refine ⟨h.1, ?_⟩
  rcases h.2 with h0 | ⟨g, cap, cur, hv, hg, r⟩
  · exact .inl h0
  · exact .inr ⟨g, cap, cur, hv, Nat.le_trans hb hg, r⟩
theorem info46 : (Tryd.prog.info? 46).map (fun i => (i.zero, i.size, i.bytes)) = some (some (.agg #[.string ⟨#[]⟩, .bool false, .slice none 0 0, .slice none 0 0, .slice none 0 0]), 5, 96) := by kernel_rfl
theorem one_tv (t : TV) : ∀ u ∈ t.cells, u.oneCell' = true := by intro u hu; simp at hu; rcases hu with rfl | rfl | rfl | rfl | rfl <;> rfl
structure TyRows (w : World) (base : Nat) (tv : TV) (t : TypeM) : Prop where
  name : tv.name = t.name
  enum : tv.enum = t.enum
  fields : w.ownsRow base 36 5 (.slice tv.fields.a tv.fields.len tv.fields.cap) t.fields.length (t.fields.flatMap FieldM.cells)
  gone : w.ownsRow base 3 1 (.slice tv.gone.a tv.gone.len tv.gone.cap) t.gone.length (t.gone.flatMap encI)
  items : w.ownsRow base 73 2 (.slice tv.items.a tv.items.len tv.items.cap) t.items.length (t.items.flatMap ItemM.cells)
theorem TyRows.map {w w' : World} {base : Nat} {tv : TV} {t : TypeM} (h : TyRows w base tv t) (k : ∀ {e : TypeId} {size : Nat} {v : Value} {n : Nat} {xs : List Value}, e ≠ 46 → w.ownsRow base e size v n xs → w'.ownsRow base e size v n xs) : TyRows w' base tv t :=
  ⟨h.name, h.enum, k (by decide) h.fields, k (by decide) h.gone, k (by decide) h.items⟩
theorem ty_base {w : World} {base base' : Nat} {tv : TV} {t : TypeM} (h : TyRows w base tv t) (hb : base' ≤ base) : TyRows w base' tv t :=
  ⟨h.name, h.enum, owns_base h.fields hb, owns_base h.gone hb, owns_base h.items hb⟩
end Go.Proofs.YtblkgaoafejefaaDoor
