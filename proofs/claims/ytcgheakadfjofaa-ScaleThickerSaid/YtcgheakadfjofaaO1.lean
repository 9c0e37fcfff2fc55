/- Lists of a call's own that grow: of integers, and of logs. -/
import Derived.Test.YtcgheakadfjofaaE5
import Derived.Test.YtcgheakadfjofaaD1
import Derived.ArgAppend
namespace Go.Proofs.Ytcgheakadfjofaa
open Go.RowKit Go.Maps Go.Shelf
set_option linter.unusedVariables false
set_option linter.unusedSimpArgs false
theorem ownsRow_ext {e : TypeId} {z B n : Nat} {w w' : World} {v : Value} {xs : List Value} (h : w.ownsRow B e z v n xs) (hb : Ext w w') : w'.ownsRow B e z v n xs := by
  obtain ⟨h1, h2⟩ := h
  refine ⟨h1, h2.imp id ?_⟩
  rintro ⟨g, cap, cur, rfl, hg, hh, r⟩
  refine ⟨g, cap, cur, rfl, hg, ?_, r⟩
  rw [hb.block g (by apply Decidable.byContradiction; intro hn; have : w.heap[g]? = none := by simp; omega
                     rw [this] at hh; cases hh)]
  exact hh
/-- A slice of the call's own that holds a list of integers. -/
def OwnI (e : TypeId) (B : Nat) (w : World) (v : Value) (xs : List Int) : Prop := w.ownsRow B e 1 v xs.length (xs.map (Value.int .i64))
theorem OwnI.nil (e : TypeId) (B : Nat) (w : World) : OwnI e B w (.slice none 0 0) [] := World.ownsRow_nil _ _ _ _
theorem OwnI.ext {e : TypeId} {B : Nat} {w w' : World} {v : Value} {xs : List Int} (h : OwnI e B w v xs) (hb : Ext w w') : OwnI e B w' v xs := ownsRow_ext h hb
theorem OwnI.reads {e : TypeId} {B : Nat} {w : World} {v : Value} {xs : List Int} (h : OwnI e B w v xs) (hl : xs.length ≤ 5000) : Reads w v xs := by
  obtain ⟨_, h⟩ := h
  rcases h with ⟨rfl, h0⟩ | ⟨g, cap, cur, rfl, hb, hh, hn, hc, hs, ht⟩
  · have : xs = [] := List.eq_nil_of_length_eq_zero h0
    subst this; exact Reads.nil w
  · refine ⟨hl, _, cap, rfl, .inr ⟨g, 0, rfl, fun i hi => ?_⟩⟩
    have h1 : (cur.toList.take (xs.length * 1))[i]? = some (.int .i64 (xs[i]?.getD 0)) := by
      rw [ht]; simp [hi]
    rw [List.getElem?_take_of_lt (by omega)] at h1
    simp [World.cell?, hh]
    simpa using h1
theorem OwnI.shape {e : TypeId} {B : Nat} {w : World} {v : Value} {xs : List Int} (h : OwnI e B w v xs) : ∃ a cap, v = .slice a xs.length cap ∧ xs.length ≤ cap := by
  obtain ⟨_, ⟨rfl, h0⟩ | ⟨g, cap, cur, rfl, hb, hh, hn, hc, hs, ht⟩⟩ := h
  · exact ⟨none, 0, by rw [h0], by omega⟩
  · exact ⟨_, cap, rfl, hn⟩
/-- 'append(s, x)' onto a list of the call's own. -/
theorem appendI {t e : TypeId} (hte : Try.prog.underlying t = some (.slice e)) (hie : (Try.prog.info? e).map (fun i => (i.zero, i.size, i.bytes)) = some (some (.int .i64 0), 1, 8))
    {ops : Array Oper} {rest : List Oper} {o : Oper} {a : Act} {Q : Exit → Act → World → Prop} (w : World) (B : Nat) (xs : List Int) (x : Int) (v : Value) (s u : Operand) (hgd : o.guard = none)
    (ho : o.op = .call { callee := .builtin .append, args := #[s, u], argTypes := #[t, t] }) (hs : a.eval s = v) (hown : OwnI e B w v xs) (hB : B ≤ w.heap.size) (hl : xs.length ≤ 5000)
    (hx : a.eval u = .slice (some ⟨w.heap.size, 0, none⟩) 1 1)
    (h : ∀ v' w', OwnI e B w' v' (xs ++ [x]) → Below B w w' → wpList Try.prog ops Q rest (a.put o.dst v') w') : wpList Try.prog ops Q (o :: rest) a (w.alloc (.cells #[.int .i64 x] e)) := by
  obtain ⟨i0, hi0, hz0, hz1, hz2⟩ := info_parts hie
  have hown2 : OwnI e B (w.alloc (.cells #[.int .i64 x] e)) v xs := hown.ext ((Ext.refl w).alloc _)
  refine wpList_append_own _ hgd s u t ho B e i0 (.int .i64 0) 1 8 hte hi0 hz0 hz1 hz2 rfl (by decide) v _ _ hs hown2 ⟨w.heap.size, 0, none⟩ 1 1 [.int .i64 x] hx rfl ?_ ?_ ?_ ?_ ?_ ?_
  · intro j u hj
    match j, hj with
    | 0, hj =>
      simp at hj; subst hj
      rw [show (⟨w.heap.size, 0, none⟩ : Addr).add 0 = ⟨w.heap.size, 0, none⟩ by simp [Addr.add], World.cell?_alloc_at _ _ _ _ rfl]; rfl
  · intro u hu; simp at hu; subst hu; rfl
  · unfold maxLen; omega
  · omega
  · simp; omega
  · intro v' w' h1 h2 _
    refine h v' w' ?_ ?_
    · unfold OwnI; simpa using h1
    · have hb0 : Below B w (w.alloc (.cells #[.int .i64 x] e)) := (Below.refl B w).alloc hB _
      refine hb0.grown h2 (by simp; omega) fun k hk => ?_
      exact (hown2.lt k hk).1
/-- A slice of the call's own that holds a list of logs. -/
def OwnLg (B : Nat) (w : World) (v : Value) (ls : List (Int × Int)) : Prop := w.ownsRow B 29 2 v ls.length (flL ls)
theorem OwnLg.nil (B : Nat) (w : World) : OwnLg B w (.slice none 0 0) [] := World.ownsRow_nil _ _ _ _
theorem OwnLg.ext {B : Nat} {w w' : World} {v : Value} {ls : List (Int × Int)} (h : OwnLg B w v ls) (hb : Ext w w') : OwnLg B w' v ls := ownsRow_ext h hb
theorem OwnLg.reads {B : Nat} {w : World} {v : Value} {ls : List (Int × Int)} (h : OwnLg B w v ls) (hl : ls.length ≤ 5000) : ReadsLg w v ls := (ReadsLc.ofRow hl h).1
theorem OwnLg.shape {B : Nat} {w : World} {v : Value} {ls : List (Int × Int)} (h : OwnLg B w v ls) : ∃ a cap, v = .slice a ls.length cap ∧ ls.length ≤ cap := by
  obtain ⟨_, ⟨rfl, h0⟩ | ⟨g, cap, cur, rfl, hb, hh, hn, hc, hs, ht⟩⟩ := h
  · exact ⟨none, 0, by rw [h0], by omega⟩
  · exact ⟨_, cap, rfl, hn⟩
theorem appendL {ops : Array Oper} {rest : List Oper} {o : Oper} {a : Act} {Q : Exit → Act → World → Prop} (w : World) (B : Nat) (ls : List (Int × Int)) (x y : Int) (v : Value) (s u : Operand) (hgd : o.guard = none)
    (ho : o.op = .call { callee := .builtin .append, args := #[s, u], argTypes := #[38, 38] }) (hs : a.eval s = v) (hown : OwnLg B w v ls) (hB : B ≤ w.heap.size) (hl : ls.length ≤ 5000)
    (hx : a.eval u = .slice (some ⟨w.heap.size, 0, none⟩) 1 1)
    (h : ∀ v' w', OwnLg B w' v' (ls ++ [(x, y)]) → Below B w w' → wpList Try.prog ops Q rest (a.put o.dst v') w') : wpList Try.prog ops Q (o :: rest) a (w.alloc (.cells #[.int .i64 x, .int .i64 y] 29)) := by
  obtain ⟨i0, hi0, hz0, hz1, hz2⟩ := info_parts info29
  have hown2 : OwnLg B (w.alloc (.cells #[.int .i64 x, .int .i64 y] 29)) v ls := hown.ext ((Ext.refl w).alloc _)
  refine wpList_append_own _ hgd s u 38 ho B 29 i0 _ 2 16 Try.underlying38 hi0 hz0 hz1 hz2 rfl (by decide) v _ _ hs hown2 ⟨w.heap.size, 0, none⟩ 1 1 (flL [(x, y)]) hx rfl ?_ ?_ ?_ ?_ ?_ ?_
  · intro j u hj
    rw [addr_add]
    match j, hj with
    | 0, hj => simp [flL] at hj; subst hj; exact World.cell?_alloc_at _ _ _ _ rfl
    | 1, hj => simp [flL] at hj; subst hj; exact World.cell?_alloc_at _ _ _ _ rfl
    | j + 2, hj => simp [flL] at hj
  · intro u hu; simp [flL] at hu; rcases hu with rfl | rfl <;> rfl
  · unfold maxLen; omega
  · omega
  · simp; omega
  · intro v' w' h1 h2 _
    refine h v' w' ?_ ?_
    · unfold OwnLg
      rw [flL_append, List.length_append]; exact h1
    · have hb0 : Below B w (w.alloc (.cells #[.int .i64 x, .int .i64 y] 29)) := (Below.refl B w).alloc hB _
      refine hb0.grown h2 (by simp; omega) fun k hk => ?_
      exact (hown2.lt k hk).1
end Go.Proofs.Ytcgheakadfjofaa
