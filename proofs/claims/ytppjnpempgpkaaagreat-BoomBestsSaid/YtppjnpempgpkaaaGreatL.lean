/- Lists of integers as slices in memory, blocks that are new, lists of a call's own that grow. -/
import Derived.WalkKit
import Derived.Deep.RegionHeld
import Derived.Deep.Draws
import Derived.Deep.OwnRows
import Derived.Laws.OwnMore
import Derived.Laws.Rows
import Derived.StillTailTactics
import Derived.ArgAppend
import Derived.Lib.BufferOwn
import Derived.Lib.Hide
import Derived.OwnWalk
import Derived.Test.YtppjnpempgpkaaaGreatProg
namespace Go.Proofs.YtppjnpempgpkaaaGreat
open Go.RowKit
set_option linter.unusedVariables false
set_option linter.unusedSimpArgs false
/-- Nothing that was there has turned; blocks may have come. -/
abbrev Ext (w w' : World) : Prop := Below w.heap.size w w'
theorem Ext.refl (w : World) : Ext w w := Below.refl _ _
theorem Ext.trans {a b c : World} (h : Ext a b) (k : Ext b c) : Ext a c := Below.trans h (k.mono h.size)

theorem lt_of_cell {w : World} {b o : Nat} {v : Value} (h : w.cell? ⟨b, o, none⟩ = some v) : b < w.heap.size := by
  apply Decidable.byContradiction; intro hn
  have : w.heap[b]? = none := by simp; omega
  simp [World.cell?, this] at h

/-- A slice of ints that reads as a list. -/
def Reads (w : World) (v : Value) (xs : List Int) : Prop :=
  xs.length ≤ 5000 ∧ ∃ a cap, v = .slice a xs.length cap ∧ (xs.length ≤ cap ∧ cap ≤ 9223372036854775807) ∧ (xs = [] ∨ ∃ b off, a = some ⟨b, off, none⟩ ∧ ∀ i, i < xs.length → w.cell? ⟨b, off + i, none⟩ = some (.int .i64 (xs[i]?.getD 0)))

theorem Reads.ext {w w' : World} {v : Value} {xs : List Int} (h : Reads w v xs) (hb : Ext w w') : Reads w' v xs := by
  obtain ⟨hl, a, cap, rfl, hcap, h⟩ := h
  refine ⟨hl, a, cap, rfl, hcap, h.imp id ?_⟩
  rintro ⟨b, off, rfl, hc⟩
  refine ⟨b, off, rfl, fun i hi => ?_⟩
  have h1 := hc i hi
  rw [hb.cell (p := ⟨b, off + i, none⟩) (lt_of_cell h1)]
  exact h1
theorem Reads.nil (w : World) : Reads w (.slice none 0 0) [] := ⟨by simp, none, 0, rfl, ⟨Nat.le_refl _, by omega⟩, .inl rfl⟩
theorem take_snoc {α : Type} {xs : List α} {k : Nat} {x : α} (h : xs[k]? = some x) : xs.take (k + 1) = xs.take k ++ [x] := by
  rw [List.take_add_one, h]; rfl
theorem get_some {α : Type} {xs : List α} {k : Nat} (h : k < xs.length) : ∃ x, xs[k]? = some x := ⟨xs[k], by simp [h]⟩
/-- Element k of a list in memory. -/
theorem Reads.at {w : World} {a : Option Addr} {n cap : Nat} {xs : List Int} (h : Reads w (.slice a n cap) xs) {k : Nat} (hk : k < xs.length) :
    ∃ b off x, a = some ⟨b, off, none⟩ ∧ xs[k]? = some x ∧ w.cell? ⟨b, off + k, none⟩ = some (.int .i64 x) := by
  obtain ⟨hl, a', cap', e, -, h⟩ := h
  cases e
  rcases h with rfl | ⟨b, off, rfl, hc⟩
  · simp at hk
  · refine ⟨b, off, xs[k], rfl, by simp [hk], ?_⟩
    have := hc k hk
    simpa [hk] using this
theorem Reads.shape {w : World} {v : Value} {xs : List Int} (h : Reads w v xs) : xs.length ≤ 5000 ∧ ∃ a cap, v = .slice a xs.length cap := ⟨h.1, let ⟨a, cap, e, _⟩ := h.2; ⟨a, cap, e⟩⟩
theorem Reads.cap {w : World} {xs : List Int} {a : Option Addr} {n cap : Nat} (h : Reads w (.slice a n cap) xs) : xs.length ≤ cap ∧ cap ≤ 9223372036854775807 := by
  obtain ⟨-, a', cap', e, hc, -⟩ := h; cases e; exact hc
theorem Reads.len {w : World} {xs : List Int} {a : Option Addr} {n cap : Nat} (h : Reads w (.slice a n cap) xs) : n = xs.length := by
  obtain ⟨-, a', cap', e, -⟩ := h; cases e; rfl
theorem cell_ext {w w' : World} (hb : Ext w w') {b o : Nat} {v : Value} (h : w.cell? ⟨b, o, none⟩ = some v) : w'.cell? ⟨b, o, none⟩ = some v := by
  rw [hb.cell (p := ⟨b, o, none⟩) (lt_of_cell h)]; exact h
theorem Ext.drew {w w' : World} (h : Ext w w') : Ext w w'.drew := Below.drew h
theorem Ext.drewN {w w' : World} (h : Ext w w') (n : Nat) : Ext w (w'.drewN n) := ⟨h.os, h.tape, h.output, h.size, h.block⟩
theorem Ext.ofDrew {w w' : World} (h : Ext w.drew w') : Ext w w' := ⟨h.os, h.tape, h.output, h.size, h.block⟩
theorem Ext.alloc {w w' : World} (h : Ext w w') (o : Obj) : Ext w (w'.alloc o) := Below.alloc h h.size o
theorem Reads.new (w : World) (xs : List Int) (T : TypeId) (n : Nat) (hn : n = w.heap.size) (hl : xs.length ≤ 5000) (cs : Array Value) (hcs : cs = (xs.map (Value.int .i64)).toArray) (m cap : Nat) (hm : m = xs.length) (hc : m ≤ cap ∧ cap ≤ 9223372036854775807 := by decide) : Reads (w.alloc (.cells cs T)) (.slice (some ⟨n, 0, none⟩) m cap) xs := by
  subst hm; subst hcs
  refine ⟨hl, _, cap, rfl, hc, .inr ⟨_, _, rfl, fun i hi => ?_⟩⟩
  rw [World.cell?_alloc_at _ _ _ _ hn]
  simp [hi]
def cmpI (a b : Int) : Int := if a < b then -1 else if b < a then 1 else 0
theorem ret_int {k : IntKind} {a b : Int} (h : a = b) : Ending.returned (.int k a) = .returned (.int k b) := by rw [h]
theorem ret_bool {a b : Bool} (h : a = b) : Ending.returned (.bool a) = .returned (.bool b) := by rw [h]
theorem wrapi64 (a : Int) (h0 : -9223372036854775808 ≤ a) (h1 : a < 9223372036854775808) : IntKind.i64.wrap a = a := by
  simp [IntKind.wrap, IntKind.bits, IntKind.signed]; omega

theorem cell_of_blk {W : World} {b : Nat} {cs : Array Value} {t : TypeId} {fr : Nat × Nat} (h : W.heap[b]? = some (.cells cs t fr)) {o : Nat} {v : Value} (hv : cs[o]? = some v) : W.cell? ⟨b, o, none⟩ = some v := by
  simp [World.cell?, h, hv]
theorem frozen_of_blk {W : World} {b : Nat} {cs : Array Value} {t : TypeId} (h : W.heap[b]? = some (.cells cs t (0, 0))) (o : Nat) : W.frozen? ⟨b, o, none⟩ = false := by
  simp [World.frozen?, h]
theorem block_ext {w w' : World} (hb : Ext w w') {b : Nat} {o : Obj} (h : w.heap[b]? = some o) : w'.heap[b]? = some o := by
  have hlt := (Array.getElem?_eq_some_iff.1 h).1
  rw [hb.block b hlt]; exact h
theorem grown_set (W : World) (b o : Nat) (v : Value) : W.grownBy (W.setCell ⟨b, o, none⟩ v) (some b) := by
  refine ⟨rfl, rfl, rfl, by simp [World.setCell], fun k _ hk => ?_⟩
  show (W.heap.modify b _)[k]? = _
  rw [Array.getElem?_modify, if_neg (fun e => hk (by rw [e]))]
theorem grown_sets (b : Nat) : ∀ (vs : List Value) (o : Nat) (w : World), w.grownBy (w.setCells b o vs) (some b)
  | [], o, w => World.grownBy.refl _ _
  | v :: r, o, w => Lib.grownBy_trans (grown_set w b o v) (grown_sets b r (o + 1) _)
theorem set_blk {W : World} {b o : Nat} {cs : List Value} {t : TypeId} {fr : Nat × Nat} (h : W.heap[b]? = some (.cells cs.toArray t fr)) (v : Value) : (W.setCell ⟨b, o, none⟩ v).heap[b]? = some (.cells (cs.set o v).toArray t fr) := by
  show (W.heap.modify b _)[b]? = _
  rw [Array.getElem?_modify, if_pos rfl, h]
  simp
theorem other_blk {W W' : World} {b g : Nat} (hg : W.grownBy W' (some b)) (hne : g ≠ b) (hlt : g < W.heap.size) : W'.heap[g]? = W.heap[g]? := hg.block g hlt (fun e => hne (by cases e; rfl))
theorem cell_grown {W W' : World} {b g o : Nat} {v : Value} (hg : W.grownBy W' (some b)) (hne : g ≠ b) (h : W.cell? ⟨g, o, none⟩ = some v) : W'.cell? ⟨g, o, none⟩ = some v := by
  have := other_blk hg hne (lt_of_cell h)
  rw [← h]
  simp only [World.cell?, this]
theorem grown_new {w w1 w' : World} {bt : Nat} (h1 : Ext w w1) (hg : w1.grownBy w' (some bt)) (hbt : w.heap.size ≤ bt) : Ext w w' :=
  ⟨hg.os.trans h1.os, hg.tape.trans h1.tape, hg.output.trans h1.output, Nat.le_trans h1.size hg.size, fun k hk => (hg.block k (Nat.lt_of_lt_of_le hk h1.size) (fun e => by have := Option.some.inj e; omega)).trans (h1.block k hk)⟩
theorem lt_of_blk {w : World} {b : Nat} {o : Obj} (h : w.heap[b]? = some o) : b < w.heap.size := (Array.getElem?_eq_some_iff.1 h).1
/-- The number that a value is. -/
def intV : Value → Int
  | .int _ x => x
  | _ => 0
theorem addr_add (b off j : Nat) : (⟨b, off, none⟩ : Addr).add j = ⟨b, off + j, none⟩ := by unfold Addr.add; split <;> simp_all
theorem far_ {X : World} {b o b' o' : Nat} {v u : Value} (h : X.cell? ⟨b, o, none⟩ = some v) (hne : b' ≠ b) : (X.setCell ⟨b', o', none⟩ u).cell? ⟨b, o, none⟩ = some v := (World.cell?_setCell_far X ⟨b', o', none⟩ ⟨b, o, none⟩ u hne).trans h
theorem ownsRow_ext {e : TypeId} {z B n : Nat} {w w' : World} {v : Value} {xs : List Value} (h : w.ownsRow B e z v n xs) (hb : Ext w w') : w'.ownsRow B e z v n xs := by
  obtain ⟨h1, h2⟩ := h
  refine ⟨h1, h2.imp id ?_⟩
  rintro ⟨g, cap, cur, rfl, hg, hh, r⟩
  refine ⟨g, cap, cur, rfl, hg, ?_, r⟩
  rw [hb.block g (by apply Decidable.byContradiction; intro hn; have : w.heap[g]? = none := by simp; omega
                     rw [this] at hh; cases hh)]
  exact hh
/-- A slice of the call's own that holds a list of integers. -/
def OwnI (e : TypeId) (B : Nat) (w : World) (v : Value) (xs : List Int) : Prop := w.ownsRow B e 1 v xs.length (xs.map (Value.int .i64))
theorem OwnI.nil (e : TypeId) (B : Nat) (w : World) : OwnI e B w (.slice none 0 0) [] := World.ownsRow_nil _ _ _ _
theorem OwnI.ext {e : TypeId} {B : Nat} {w w' : World} {v : Value} {xs : List Int} (h : OwnI e B w v xs) (hb : Ext w w') : OwnI e B w' v xs := ownsRow_ext h hb
theorem OwnI.reads {e : TypeId} {B : Nat} {w : World} {v : Value} {xs : List Int} (h : OwnI e B w v xs) (hl : xs.length ≤ 5000) : Reads w v xs := by
  obtain ⟨_, h⟩ := h
  rcases h with ⟨rfl, h0⟩ | ⟨g, cap, cur, rfl, hb, hh, hn, hc, hs, ht⟩
  · have : xs = [] := List.eq_nil_of_length_eq_zero h0
    subst this; exact Reads.nil w
  · refine ⟨hl, _, cap, rfl, ⟨hn, by unfold maxLen at hc; omega⟩, .inr ⟨g, 0, rfl, fun i hi => ?_⟩⟩
    have h1 : (cur.toList.take (xs.length * 1))[i]? = some (.int .i64 (xs[i]?.getD 0)) := by
      rw [ht]; simp [hi]
    rw [List.getElem?_take_of_lt (by omega)] at h1
    simp [World.cell?, hh]
    simpa using h1
theorem OwnI.shape {e : TypeId} {B : Nat} {w : World} {v : Value} {xs : List Int} (h : OwnI e B w v xs) : ∃ a cap, v = .slice a xs.length cap ∧ xs.length ≤ cap := by
  obtain ⟨_, ⟨rfl, h0⟩ | ⟨g, cap, cur, rfl, hb, hh, hn, hc, hs, ht⟩⟩ := h
  · exact ⟨none, 0, by rw [h0], by omega⟩
  · exact ⟨_, cap, rfl, hn⟩
/-- 'append(s, x)' onto a list of the call's own. -/
theorem appendI {t e : TypeId} (hte : Tryz.prog.underlying t = some (.slice e)) (hie : (Tryz.prog.info? e).map (fun i => (i.zero, i.size, i.bytes)) = some (some (.int .i64 0), 1, 8))
    {ops : Array Oper} {rest : List Oper} {o : Oper} {a : Act} {Q : Exit → Act → World → Prop} (w : World) (B : Nat) (xs : List Int) (x : Int) (v : Value) (s u : Operand) (hgd : o.guard = none)
    (ho : o.op = .call { callee := .builtin .append, args := #[s, u], argTypes := #[t, t] }) (hs : a.eval s = v) (hown : OwnI e B w v xs) (hB : B ≤ w.heap.size) (hl : xs.length ≤ 5000)
    (hx : a.eval u = .slice (some ⟨w.heap.size, 0, none⟩) 1 1)
    (h : ∀ v' w', OwnI e B w' v' (xs ++ [x]) → Below B w w' → wpList Tryz.prog ops Q rest (a.put o.dst v') w') : wpList Tryz.prog ops Q (o :: rest) a (w.alloc (.cells #[.int .i64 x] e)) := by
  obtain ⟨i0, hi0, hz0, hz1, hz2⟩ := info_parts hie
  have hown2 : OwnI e B (w.alloc (.cells #[.int .i64 x] e)) v xs := hown.ext ((Ext.refl w).alloc _)
  refine wpList_append_own _ hgd s u t ho B e i0 (.int .i64 0) 1 8 hte hi0 hz0 hz1 hz2 rfl (by decide) v _ _ hs hown2 ⟨w.heap.size, 0, none⟩ 1 1 [.int .i64 x] hx rfl ?_ ?_ ?_ ?_ ?_ ?_
  · intro j u hj
    match j, hj with
    | 0, hj =>
      simp at hj; subst hj
      rw [show (⟨w.heap.size, 0, none⟩ : Addr).add 0 = ⟨w.heap.size, 0, none⟩ by simp [Addr.add], World.cell?_alloc_at _ _ _ _ rfl]; rfl
  · intro u hu; simp at hu; subst hu; rfl
  · unfold maxLen; omega
  · omega
  · simp; omega
  · intro v' w' h1 h2 _
    refine h v' w' ?_ ?_
    · unfold OwnI; simpa using h1
    · have hb0 : Below B w (w.alloc (.cells #[.int .i64 x] e)) := (Below.refl B w).alloc hB _
      refine hb0.grown h2 (by simp; omega) fun k hk => ?_
      exact (hown2.lt k hk).1
theorem OwnI.grown {e : TypeId} {B b : Nat} {w w' : World} {v : Value} {xs : List Int} (h : OwnI e B w v xs) (hg : w.grownBy w' (some b)) (hb : b < B) : OwnI e B w' v xs := by
  obtain ⟨h1, h2⟩ := h
  refine ⟨h1, h2.imp id ?_⟩
  rintro ⟨g, cap, cur, rfl, hgb, hh, r⟩
  refine ⟨g, cap, cur, rfl, hgb, ?_, r⟩
  rw [hg.block g (lt_of_blk hh) (by intro h; cases h; omega)]
  exact hh
theorem set_getD {xs : List Int} {k : Nat} (h : k < xs.length) (x : Int) : (xs.set k x).getD k 0 = x := by simp [List.getD, h]
theorem set_getD_ne {xs : List Int} {k j : Nat} (h : k ≠ j) (x : Int) : (xs.set k x).getD j 0 = xs.getD j 0 := by simp [List.getD, List.getElem?_set_ne h]
theorem Reads.get {w : World} {b off n cap : Nat} {xs : List Int} (h : Reads w (.slice (some ⟨b, off, none⟩) n cap) xs) {k : Nat} (hk : k < xs.length) : w.cell? ⟨b, off + k, none⟩ = some (.int .i64 (xs.getD k 0)) := by
  obtain ⟨b', off', x, e, hx, hc⟩ := h.at hk
  cases e
  rw [hc]; simp [List.getD, hx]
theorem still_tail {P : Program} {id : Nat} {Q : Exit → Act → World → Prop} {a : Act} {w : World} {l : List Oper} (n : Nat) (hm : P.follows .mixedOrders = true) (hB : Region.lexTailB .any l.toArray n = true)
    (h : ∀ W : World, W = w.drew → wpStill P l.toArray W (fun a' => wpList P l.toArray Q (l.drop n) a' W) (l.take n) a) : (Code.region id l.toArray true).wp P Q a w :=
  wp_region_still_tail n hm hB (h _ rfl)

theorem heap_alloc_new (w : World) (o : Obj) : (w.alloc o).heap[w.heap.size]? = some o := by
  show (w.heap.push o)[w.heap.size]? = some o
  simp
theorem Ext.set {w X : World} (h : Ext w X) {b : Nat} (hb : w.heap.size ≤ b) (p : Nat) (v : Value) : Ext w (X.setCell ⟨b, p, none⟩ v) := Below.setCell h (p := ⟨b, p, none⟩) hb v
end Go.Proofs.YtppjnpempgpkaaaGreat
