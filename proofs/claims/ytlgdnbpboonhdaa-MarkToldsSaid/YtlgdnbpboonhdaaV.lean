/- Valid offices; lists of numbers in memory; lists that a call gathers. -/
import Derived.Test.YtlgdnbpboonhdaaM4
namespace Go.Proofs.Ytlgdnbpboonhdaa
open Go.RowKit
set_option linter.unusedVariables false
def ints (ms : List Nat) : List Int := ms.map fun (m : Nat) => (m : Int)
theorem ints_length (ms : List Nat) : (ints ms).length = ms.length := by simp [ints]
theorem ints_get {ms : List Nat} {k : Nat} {x : Int} (h : (ints ms)[k]? = some x) : ∃ m : Nat, ms[k]? = some m ∧ x = m := by
  simp only [ints, List.getElem?_map, Option.map_eq_some_iff] at h
  obtain ⟨m, h1, h2⟩ := h
  exact ⟨m, h1, h2.symm⟩
theorem ints_inj {a b : List Nat} (h : ints a = ints b) : a = b := by
  have := (List.map_inj_right (f := fun (m : Nat) => (m : Int)) (by intro x y h; exact Int.ofNat_inj.1 h)).1 h
  exact this
theorem ints_beq (a b : List Nat) : (ints a == ints b) = (a == b) := by
  rw [Bool.eq_iff_iff]; simp only [beq_iff_eq]
  exact ⟨ints_inj, fun h => by rw [h]⟩
theorem ints_toNat (xs : List Int) (h : ∀ x ∈ xs, 0 ≤ x) : xs = ints (xs.map Int.toNat) := by
  induction xs with
  | nil => rfl
  | cons x l ih =>
    simp only [ints, List.map_cons, List.cons.injEq]
    have h0 := h x (by simp)
    exact ⟨by omega, ih fun y hy => h y (by simp [hy])⟩
def Valid (S L : Nat) (ms : List Nat) : Prop := 1 ≤ S ∧ S ≤ 10 ∧ L ≤ S ∧ ms.length ≤ 12 ∧ ∀ m ∈ ms, 1 ≤ m ∧ m ≤ full S
theorem Valid.lt {S L : Nat} {ms : List Nat} (h : Valid S L ms) {k m : Nat} (hk : ms[k]? = some m) : m < 1024 := by
  have h1 := (h.2.2.2.2 m (List.mem_of_getElem? hk)).2
  have h2 := full_lt S h.2.1
  omega
theorem chk_ok {S L : Nat} {ms : List Nat} (h : Valid S L ms) : chk S L (ints ms) = 0 := by
  obtain ⟨h1, h2, h3, h4, h5⟩ := h
  rw [chk, if_pos (by omega), if_neg (by rw [ints_length]; omega), if_pos]
  simp only [inR, ints, List.all_map, List.all_eq_true]
  intro m hm
  have := h5 m hm
  simp; omega
theorem chk_zero {S L : Int} {xs : List Int} (h : chk S L xs = 0) : ∃ (S' L' : Nat) (ms : List Nat), S = S' ∧ L = L' ∧ xs = ints ms ∧ Valid S' L' ms := by
  unfold chk at h
  split at h
  · rename_i hs
    split at h
    · omega
    · rename_i hm
      split at h
      · rename_i hi
        refine ⟨S.toNat, L.toNat, xs.map Int.toNat, by omega, by omega, ?_, by omega, by omega, by omega, by simp; omega, ?_⟩
        · refine ints_toNat xs fun x hx => ?_
          have := List.all_eq_true.1 hi x hx
          simp at this; omega
        · intro m hm
          obtain ⟨x, hx, rfl⟩ := List.mem_map.1 hm
          have := List.all_eq_true.1 hi x hx
          simp at this; omega
      · omega
  · omega
/-- A slice of the call's own that holds a list. -/
def Owns (B : Nat) (w : World) (v : Value) (xs : List Int) : Prop := w.ownsRow B 3 1 v xs.length (xs.map (Value.int .i64))
theorem Owns.nil (B : Nat) (w : World) : Owns B w (.slice none 0 0) [] := World.ownsRow_nil _ _ _ _
theorem Owns.reads {B : Nat} {w : World} {v : Value} {xs : List Int} (h : Owns B w v xs) (hl : xs.length ≤ 5000) : Reads w v xs := by
  obtain ⟨_, h⟩ := h
  rcases h with ⟨rfl, h0⟩ | ⟨g, cap, cur, rfl, hb, hh, hn, hc, hs, ht⟩
  · have : xs = [] := List.eq_nil_of_length_eq_zero h0
    subst this; exact Reads.nil w
  · refine ⟨hl, _, cap, rfl, .inr ⟨g, 0, rfl, fun i hi => ?_⟩⟩
    have h1 : (cur.toList.take (xs.length * 1))[i]? = some (.int .i64 (xs[i]?.getD 0)) := by
      rw [ht]; simp [hi]
    rw [List.getElem?_take_of_lt (by omega)] at h1
    simp [World.cell?, hh]
    simpa using h1
theorem ownsI_ext {B : Nat} {w w' : World} {v : Value} {xs : List Int} (h : Owns B w v xs) (hb : Ext w w') : Owns B w' v xs := by
  obtain ⟨h1, h2⟩ := h
  refine ⟨h1, h2.imp id ?_⟩
  rintro ⟨g, cap, cur, rfl, hg, hh, r⟩
  refine ⟨g, cap, cur, rfl, hg, ?_, r⟩
  rw [hb.block g (by apply Decidable.byContradiction; intro hn; have : w.heap[g]? = none := by simp; omega
                     rw [this] at hh; cases hh)]
  exact hh
theorem Try.info3 : (Try.prog.info? 3).map (fun i => (i.zero, i.size, i.bytes)) = some (some (.int .i64 0), 1, 8) := by kernel_rfl
/-- 'append(s, x)' onto a list of the call's own. -/
theorem append1 {ops : Array Oper} {rest : List Oper} {o : Oper} {a : Act} {Q : Exit → Act → World → Prop} (w : World) (B : Nat) (xs : List Int) (x : Int) (v : Value) (s t : Operand) (hgd : o.guard = none)
    (ho : o.op = .call { callee := .builtin .append, args := #[s, t], argTypes := #[22, 22] }) (hs : a.eval s = v) (hown : Owns B w v xs) (hB : B ≤ w.heap.size) (hl : xs.length ≤ 5000)
    (hx : a.eval t = .slice (some ⟨w.heap.size, 0, none⟩) 1 1)
    (h : ∀ v' w', Owns B w' v' (xs ++ [x]) → Below B w w' → wpList Try.prog ops Q rest (a.put o.dst v') w') : wpList Try.prog ops Q (o :: rest) a (w.alloc (.cells #[.int .i64 x] 3)) := by
  obtain ⟨i0, hi0, hz0, hz1, hz2⟩ := info_parts Try.info3
  have hown2 : Owns B (w.alloc (.cells #[.int .i64 x] 3)) v xs := ownsI_ext hown ((Ext.refl w).alloc _)
  refine wpList_append_own _ hgd s t 22 ho B 3 i0 (.int .i64 0) 1 8 Try.underlying22 hi0 hz0 hz1 hz2 rfl (by decide) v _ _ hs hown2 ⟨w.heap.size, 0, none⟩ 1 1 [.int .i64 x] hx rfl ?_ ?_ ?_ ?_ ?_ ?_
  · intro j u hj
    match j, hj with
    | 0, hj =>
      simp at hj; subst hj
      rw [show (⟨w.heap.size, 0, none⟩ : Addr).add 0 = ⟨w.heap.size, 0, none⟩ by simp [Addr.add], World.cell?_alloc_at _ _ _ _ rfl]; rfl
  · intro u hu; simp at hu; subst hu; rfl
  · unfold maxLen; omega
  · omega
  · simp; omega
  · intro v' w' h1 h2 _
    refine h v' w' ?_ ?_
    · unfold Owns; simpa using h1
    · have hb0 : Below B w (w.alloc (.cells #[.int .i64 x] 3)) := (Below.refl B w).alloc hB _
      refine hb0.grown h2 (by simp; omega) fun k hk => ?_
      exact (hown2.lt k hk).1
/-- What a round keeps: what lay below a block number, and some blocks besides. -/
def Kp2 (B : Nat) (rs : List Nat) (w w' : World) : Prop := Below B w w' ∧ ∀ r ∈ rs, w'.heap[r]? = w.heap[r]?
theorem Kp2.refl (B : Nat) (rs : List Nat) (w : World) : Kp2 B rs w w := ⟨Below.refl _ _, fun _ _ => rfl⟩
theorem Kp2.trans {B : Nat} {rs : List Nat} {a b c : World} (h : Kp2 B rs a b) (k : Kp2 B rs b c) : Kp2 B rs a c := ⟨h.1.trans k.1, fun r hr => (k.2 r hr).trans (h.2 r hr)⟩
theorem Kp2.drewN {B : Nat} {rs : List Nat} {a b : World} (h : Kp2 B rs a b) (n : Nat) : Kp2 B rs a (b.drewN n) := ⟨⟨h.1.os, h.1.tape, h.1.output, h.1.size, h.1.block⟩, h.2⟩
theorem Kp2.ofDrew {B : Nat} {rs : List Nat} {a b : World} (h : Kp2 B rs a.drew b) : Kp2 B rs a b := ⟨⟨h.1.os, h.1.tape, h.1.output, h.1.size, h.1.block⟩, h.2⟩
theorem Kp2.cell {B : Nat} {rs : List Nat} {a b : World} (h : Kp2 B rs a b) {g o : Nat} (hg : g < B ∨ g ∈ rs) {v : Value} (hc : a.cell? ⟨g, o, none⟩ = some v) : b.cell? ⟨g, o, none⟩ = some v := by
  rcases hg with hg | hg
  · rw [h.1.cell (p := ⟨g, o, none⟩) hg]; exact hc
  · rw [World.cell?_of_block (w := a) (a := ⟨g, o, none⟩) (h.2 g hg)]; exact hc
end Go.Proofs.Ytlgdnbpboonhdaa
