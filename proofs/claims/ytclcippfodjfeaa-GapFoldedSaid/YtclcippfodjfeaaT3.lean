/- A list of the call's own of lists of its own: a header read, a list begun, a list grown, an element set. The reference's Tableau (72), by its contract. The reference's ShapeOf, MostOf, Most, Fewest, Shape (55, 42, 24, 26, 28), by their contracts. -/
import Derived.Test.YtclcippfodjfeaaR6
import Derived.Maps.AppendAt
namespace Go.Proofs.Ytclcippfodjfeaa
open Go.RowKit
set_option linter.unusedVariables false
set_option linter.unusedSimpArgs false
/-- Two slices lie in different blocks, or one has none. -/
def Apt (a b : Value) : Prop := a.ownBlock = none ∨ b.ownBlock = none ∨ a.ownBlock ≠ b.ownBlock
structure OwnT (B : Nat) (w : World) (v : Value) (rows : List (List Int)) (hs : List Value) : Prop where
  own : w.ownsRow B 22 1 v rows.length hs
  row : ∀ (i : Nat) (r : List Int) (h : Value), rows[i]? = some r → hs[i]? = some h → OwnI 2 B w h r
  apt : ∀ (i j : Nat) (a b : Value), i ≠ j → hs[i]? = some a → hs[j]? = some b → Apt a b
theorem OwnT.len {B : Nat} {w : World} {v : Value} {rows : List (List Int)} {hs : List Value} (h : OwnT B w v rows hs) : hs.length = rows.length := by have := h.own.1; omega
theorem OwnT.nil (B : Nat) (w : World) : OwnT B w (.slice none 0 0) [] [] := ⟨World.ownsRow_nil _ _ _ _, fun i r h h1 => by simp at h1, fun i j a b _ h1 => by simp at h1⟩
theorem OwnT.ext {B : Nat} {w w' : World} {v : Value} {rows : List (List Int)} {hs : List Value} (h : OwnT B w v rows hs) (hb : Ext w w') : OwnT B w' v rows hs :=
  ⟨ownsRow_ext h.own hb, fun i r hd h1 h2 => (h.row i r hd h1 h2).ext hb, h.apt⟩
theorem OwnT.shape {B : Nat} {w : World} {v : Value} {rows : List (List Int)} {hs : List Value} (h : OwnT B w v rows hs) : ∃ a cap, v = .slice a rows.length cap ∧ rows.length ≤ cap := by
  obtain ⟨_, ⟨rfl, h0⟩ | ⟨g, cap, cur, rfl, hb, hh, hn, hc, hs, ht⟩⟩ := h.own
  · exact ⟨none, 0, by rw [h0], by omega⟩
  · exact ⟨_, cap, rfl, hn⟩
/-- The block of a list of the call's own. -/
theorem own_blk {e : TypeId} {B n z : Nat} {w : World} {v : Value} {xs : List Value} (h : w.ownsRow B e z v n xs) {g : Nat} (hg : v.ownBlock = some g) : ∃ cur, w.heap[g]? = some (.cells cur e (0, 0)) := by
  rcases h.2 with ⟨rfl, -⟩ | ⟨gv, capv, cur, rfl, -, hv, -⟩
  · cases hg
  · have : gv = g := by simpa [Value.ownBlock] using hg
    subst this; exact ⟨cur, hv⟩
/-- A list stays while another block grows. -/
theorem own_stay {e : TypeId} {B n z : Nat} {w w' : World} {v : Value} {xs : List Value} {b : Option Nat} (h : w.ownsRow B e z v n xs) (hg : w.grownBy w' b) (hne : v.ownBlock = none ∨ b = none ∨ v.ownBlock ≠ b) : w'.ownsRow B e z v n xs := by
  obtain ⟨h1, h2 | ⟨g, cap, cur, rfl, hB, hh, r⟩⟩ := h
  · exact ⟨h1, .inl h2⟩
  · refine ⟨h1, .inr ⟨g, cap, cur, rfl, hB, ?_, r⟩⟩
    rw [← hh]
    refine hg.block g (lt_of_blk hh) fun hc => ?_
    rcases hne with h | h | h
    · simp [Value.ownBlock] at h
    · rw [h] at hc; cases hc
    · exact h (by simpa [Value.ownBlock] using hc)
theorem own_types {e e2 : TypeId} {B B2 n n2 z z2 : Nat} {w : World} {v u : Value} {xs ys : List Value} (h : w.ownsRow B e z v n xs) (h2 : w.ownsRow B2 e2 z2 u n2 ys) (hne : e ≠ e2) : v.ownBlock = none ∨ u.ownBlock = none ∨ v.ownBlock ≠ u.ownBlock := by
  cases hv : v.ownBlock with
  | none => exact .inl rfl
  | some g =>
    cases hu : u.ownBlock with
    | none => exact .inr (.inl rfl)
    | some g2 =>
      refine .inr (.inr fun e3 => ?_)
      cases e3
      obtain ⟨c1, k1⟩ := own_blk h hv
      obtain ⟨c2, k2⟩ := own_blk h2 hu
      rw [k1] at k2; cases k2; exact hne rfl
/-- Header i: where it lies, and what it is. -/
theorem OwnT.at {B m cap : Nat} {w : World} {a : Option Addr} {rows : List (List Int)} {hs : List Value} (h : OwnT B w (.slice a m cap) rows hs) {i : Nat} (hi : i < rows.length) :
    ∃ g hd, a = some ⟨g, 0, none⟩ ∧ B ≤ g ∧ g < w.heap.size ∧ hs[i]? = some hd ∧ w.cell? ⟨g, i, none⟩ = some hd ∧ w.frozen? ⟨g, i, none⟩ = false ∧ OwnI 2 B w hd (rows.getD i []) := by
  have hl := h.len
  obtain ⟨hd, hhd⟩ := get_some (show i < hs.length by omega)
  obtain ⟨r, hr⟩ := get_some hi
  obtain ⟨a', cap', hv, hc⟩ := h.shape
  cases hv
  rcases h.own.2 with ⟨h1, h2⟩ | ⟨g, cap', cur, h1, hB, hg, _⟩
  · exfalso; omega
  · cases h1
    refine ⟨g, hd, rfl, hB, lt_of_blk hg, hhd, ?_, World.ownsRow.frozenAt h.own i, ?_⟩
    · have h3 := World.ownsRow.cellAt h.own i (by omega)
      rw [h3, hhd]
    · have h3 := h.row i r hd hr hhd
      rw [List.getD_eq_getElem?_getD, hr]; exact h3
/-- A list is begun. -/
theorem OwnT.push {B : Nat} {w w' : World} {v v' : Value} {rows : List (List Int)} {hs : List Value} (h : OwnT B w v rows hs) (ho : w'.ownsRow B 22 1 v' (rows.length + 1) (hs ++ [.slice none 0 0])) (hg : w.grownBy w' v.ownBlock) : OwnT B w' v' (rows ++ [[]]) (hs ++ [.slice none 0 0]) := by
  have hl := h.len
  refine ⟨by rw [List.length_append]; exact ho, fun i r hd h1 h2 => ?_, fun i j a b hij h1 h2 => ?_⟩
  · by_cases hi : i < rows.length
    · rw [List.getElem?_append_left hi] at h1
      rw [List.getElem?_append_left (by omega)] at h2
      have h3 := h.row i r hd h1 h2
      exact own_stay h3 hg (own_types h3 h.own (by decide))
    · rw [List.getElem?_append_right (by omega)] at h1
      rw [List.getElem?_append_right (by omega)] at h2
      have e1 : i - rows.length = 0 := by
        have := (List.getElem?_eq_some_iff.1 h1).1
        simp at this; omega
      rw [e1] at h1
      rw [show i - hs.length = 0 by omega] at h2
      simp at h1 h2
      subst h1; subst h2
      exact OwnI.nil _ _ _
  · by_cases hi : i < hs.length
    · rw [List.getElem?_append_left hi] at h1
      by_cases hj : j < hs.length
      · rw [List.getElem?_append_left hj] at h2
        exact h.apt i j a b hij h1 h2
      · rw [List.getElem?_append_right (by omega)] at h2
        have e1 : j - hs.length = 0 := by
          have := (List.getElem?_eq_some_iff.1 h2).1
          simp at this; omega
        rw [e1] at h2
        simp at h2; subst h2
        exact .inr (.inl rfl)
    · rw [List.getElem?_append_right (by omega)] at h1
      have e1 : i - hs.length = 0 := by
        have := (List.getElem?_eq_some_iff.1 h1).1
        simp at this; omega
      rw [e1] at h1
      simp at h1; subst h1
      exact .inl rfl
/-- A list is grown, and its header stored. -/
theorem OwnT.put {B m cap g i : Nat} {w w1 : World} {hd hd' : Value} {rows : List (List Int)} {hs : List Value} {r' : List Int} (h : OwnT B w (.slice (some ⟨g, 0, none⟩) m cap) rows hs) (hi : hs[i]? = some hd) (hir : i < rows.length)
    (ho : OwnI 2 B w1 hd' r') (hg : w.grownBy w1 hd.ownBlock) (hblk : hd'.ownBlock = hd.ownBlock ∨ hd'.ownBlock = none ∨ ∃ k, hd'.ownBlock = some k ∧ w.heap.size ≤ k) : OwnT B (w1.setCell ⟨g, i, none⟩ hd') (.slice (some ⟨g, 0, none⟩) m cap) (rows.set i r') (hs.set i hd') := by
  obtain ⟨a0, cap0, hv0, -⟩ := h.shape
  cases hv0
  have hl := h.len
  obtain ⟨r, hr⟩ := get_some hir
  have hrow := h.row i r hd hr hi
  have hown1 : w1.ownsRow B 22 1 (.slice (some ⟨g, 0, none⟩) rows.length cap) rows.length hs := own_stay h.own hg (own_types h.own hrow (by decide))
  have hown2 := (World.ownsRow.stored hown1 i hd').1
  have hgs := grown_set w1 g i hd'
  have hno : ∀ j b, j ≠ i → hs[j]? = some b → b.ownBlock = none ∨ hd.ownBlock = none ∨ b.ownBlock ≠ hd.ownBlock := fun j b hj hb => h.apt j i b hd hj hb hi
  refine ⟨by rw [List.length_set]; exact hown2, fun j rj hj h1 h2 => ?_, fun j k a b hjk h1 h2 => ?_⟩
  · by_cases hji : j = i
    · subst hji
      rw [List.getElem?_set_self hir] at h1
      rw [List.getElem?_set_self (by omega)] at h2
      cases h1; cases h2
      exact own_stay ho hgs (own_types ho hown1 (by decide))
    · rw [List.getElem?_set_ne (Ne.symm hji)] at h1 h2
      have h3 := h.row j rj hj h1 h2
      have h4 : OwnI 2 B w1 hj rj := own_stay h3 hg (hno j hj hji h2)
      exact own_stay h4 hgs (own_types h4 hown1 (by decide))
  · have key : ∀ j b, j ≠ i → hs[j]? = some b → Apt b hd' := fun j b hj hb => by
      obtain ⟨rj, hrj⟩ := get_some (show j < rows.length by have := (List.getElem?_eq_some_iff.1 hb).1; omega)
      have h3 := h.row j rj b hrj hb
      rcases hblk with h5 | h5 | ⟨k, h5, h6⟩
      · rcases hno j b hj hb with h7 | h7 | h7
        · exact .inl h7
        · exact .inr (.inl (h5.trans h7))
        · exact .inr (.inr (by rw [h5]; exact h7))
      · exact .inr (.inl h5)
      · cases hbb : b.ownBlock with
        | none => exact .inl hbb
        | some gb =>
          refine .inr (.inr ?_)
          rw [hbb, h5]
          intro e
          obtain ⟨cur, hc⟩ := own_blk h3 hbb
          have := lt_of_blk hc
          have := Option.some.inj e
          omega
    have sym : ∀ {x y : Value}, Apt x y → Apt y x := fun h => by
      rcases h with h | h | h
      · exact .inr (.inl h)
      · exact .inl h
      · exact .inr (.inr (Ne.symm h))
    by_cases hji : j = i
    · subst hji
      rw [List.getElem?_set_self (by omega)] at h1
      rw [List.getElem?_set_ne hjk] at h2
      cases h1
      exact sym (key k b (Ne.symm hjk) h2)
    · rw [List.getElem?_set_ne (Ne.symm hji)] at h1
      by_cases hki : k = i
      · subst hki
        rw [List.getElem?_set_self (by omega)] at h2
        cases h2
        exact key j a hji h1
      · rw [List.getElem?_set_ne (Ne.symm hki)] at h2
        exact h.apt j k a b hjk h1 h2
/-- An element of a list is set. -/
theorem OwnT.set {B m' cap' i gr p : Nat} {w : World} {v : Value} {rows : List (List Int)} {hs : List Value} {r : List Int} (h : OwnT B w v rows hs) (hi : hs[i]? = some (.slice (some ⟨gr, 0, none⟩) m' cap')) (hr : rows[i]? = some r) (hp : p < r.length) (x : Int) :
    OwnT B (w.setCell ⟨gr, p, none⟩ (.int .i64 x)) v (rows.set i (r.set p x)) hs := by
  have hl := h.len
  have hir := (List.getElem?_eq_some_iff.1 hr).1
  have hrow := h.row i r _ hr hi
  have hgs := grown_set w gr p (.int .i64 x)
  refine ⟨by rw [List.length_set]; exact own_stay h.own hgs (own_types h.own hrow (by decide)), fun j rj hj h1 h2 => ?_, h.apt⟩
  by_cases hji : j = i
  · subst hji
    rw [List.getElem?_set_self hir] at h1
    rw [hi] at h2
    cases h1; cases h2
    obtain ⟨g', hg', -, -, -, -, hst⟩ := hrow.at (p := p) hp
    cases hg'
    exact hst x
  · rw [List.getElem?_set_ne (Ne.symm hji)] at h1
    have h3 := h.row j rj hj h1 h2
    exact own_stay h3 hgs (h.apt j i hj _ hji h2 hi)
end Go.Proofs.Ytclcippfodjfeaa
namespace Go.Proofs.Ytclcippfodjfeaa
open Go.RowKit
set_option linter.unusedVariables false
set_option linter.unusedSimpArgs false
theorem Try.info22 : (Try.prog.info? 22).map (fun i => (i.zero, i.size, i.bytes)) = some (some (.slice none 0 0), 1, 24) := by kernel_rfl
theorem ins_end {y : Int} : ∀ {r : List Int}, (∀ i, i < r.length → tAt r i ≤ y) → insRow y r = (r ++ [y], none)
  | [], _ => rfl
  | x :: xs, h => by
    have h0 := h 0 (by simp)
    have h1 := ins_end (r := xs) (y := y) (fun i hi => h (i + 1) (by simp; omega))
    unfold insRow
    rw [if_pos (show x ≤ y from h0), h1]; rfl
theorem ins_at {y : Int} : ∀ {r : List Int} {q : Nat}, (∀ i, i < q → tAt r i ≤ y) → q < r.length → y < tAt r q → insRow y r = (r.set q y, some (tAt r q))
  | [], q, _, h, _ => by simp at h
  | x :: xs, 0, _, _, h => by
    unfold insRow
    rw [if_neg (by have : y < x := h; omega)]; rfl
  | x :: xs, q + 1, h, hq, h2 => by
    have h0 : x ≤ y := h 0 (by omega)
    have h1 := ins_at (r := xs) (y := y) (q := q) (fun i hi => h (i + 1) (by omega)) (by simpa using hq) h2
    unfold insRow
    rw [if_pos h0, h1]; rfl
theorem insTab_one (y : Int) : insTab y [] = insTab y [[]] := rfl
theorem insTab_end {y : Int} {r : List Int} {t : List (List Int)} (h : ∀ i, i < r.length → tAt r i ≤ y) : insTab y (r :: t) = (r ++ [y]) :: t := by
  unfold insTab; rw [ins_end h]
theorem insTab_at {y : Int} {r : List Int} {t : List (List Int)} {q : Nat} (h : ∀ i, i < q → tAt r i ≤ y) (hq : q < r.length) (h2 : y < tAt r q) : insTab y (r :: t) = r.set q y :: insTab (tAt r q) t := by
  conv => lhs; unfold insTab
  rw [ins_at h hq h2]
theorem set_mid {α : Type} (pre rest : List α) (r r' : α) : (pre ++ r :: rest).set pre.length r' = pre ++ r' :: rest := by
  rw [List.set_append_right _ _ (Nat.le_refl _), Nat.sub_self]; rfl
theorem get_mid (pre rest : List (List Int)) (r : List Int) : (pre ++ r :: rest)[pre.length]? = some r := by
  rw [List.getElem?_append_right (Nat.le_refl _), Nat.sub_self]; rfl
/-- 'out = append(out, nil)'. -/
theorem appendT {ops : Array Oper} {rest : List Oper} {o : Oper} {a : Act} {Q : Exit → Act → World → Prop} (w : World) (B : Nat) (rows : List (List Int)) (hs : List Value) (v : Value) (s u : Operand) (N : Nat) (hN : N = w.heap.size) (hgd : o.guard = none)
    (ho : o.op = .call { callee := .builtin .append, args := #[s, u], argTypes := #[88, 88] }) (hsv : a.eval s = v) (hown : OwnT B w v rows hs) (hB : B ≤ w.heap.size) (hl : rows.length ≤ 5000)
    (hx : a.eval u = .slice (some ⟨N, 0, none⟩) 1 1)
    (h : ∀ v' w', OwnT B w' v' (rows ++ [[]]) (hs ++ [.slice none 0 0]) → Below B w w' → wpList Try.prog ops Q rest (a.put o.dst v') w') : wpList Try.prog ops Q (o :: rest) a (w.alloc (.cells #[.slice none 0 0] 22)) := by
  subst hN
  obtain ⟨i0, hi0, hz0, hz1, hz2⟩ := info_parts Try.info22
  have hown2 := hown.ext ((Ext.refl w).alloc (.cells #[.slice none 0 0] 22))
  refine wpList_append_own _ hgd s u 88 ho B 22 i0 (.slice none 0 0) 1 24 Try.underlying88 hi0 hz0 hz1 hz2 rfl (by decide) v _ _ hsv hown2.own ⟨w.heap.size, 0, none⟩ 1 1 [.slice none 0 0] hx rfl ?_ ?_ ?_ ?_ ?_ ?_
  · intro j u hj
    match j, hj with
    | 0, hj =>
      simp at hj; subst hj
      rw [show (⟨w.heap.size, 0, none⟩ : Addr).add 0 = ⟨w.heap.size, 0, none⟩ by simp [Addr.add], World.cell?_alloc_at _ _ _ _ rfl]; rfl
  · intro u hu; simp at hu; subst hu; rfl
  · unfold maxLen; omega
  · omega
  · simp; omega
  · intro v' w' h1 h2 _
    refine h v' w' (hown2.push h1 h2) ?_
    have hb0 : Below B w (w.alloc (.cells #[.slice none 0 0] 22)) := (Below.refl B w).alloc hB _
    exact hb0.grown h2 (by simp; omega) fun k hk => (hown2.own.lt k hk).1
/-- 'append(out[line], n)'. -/
theorem appendR {ops : Array Oper} {rest : List Oper} {o : Oper} {a : Act} {Q : Exit → Act → World → Prop} (w : World) (B : Nat) (xs : List Int) (x : Int) (v : Value) (s u : Operand) (N : Nat) (hN : N = w.heap.size) (hgd : o.guard = none)
    (ho : o.op = .call { callee := .builtin .append, args := #[s, u], argTypes := #[22, 22] }) (hs : a.eval s = v) (hown : OwnI 2 B w v xs) (hB : B ≤ w.heap.size) (hl : xs.length ≤ 5000)
    (hx : a.eval u = .slice (some ⟨N, 0, none⟩) 1 1)
    (h : ∀ v' w', OwnI 2 B w' v' (xs ++ [x]) → (w.alloc (.cells #[.int .i64 x] 2)).grownBy w' v.ownBlock → (v'.ownBlock = v.ownBlock ∨ v'.ownBlock = none ∨ ∃ k, v'.ownBlock = some k ∧ (w.alloc (.cells #[.int .i64 x] 2)).heap.size ≤ k) → Below B w w' → wpList Try.prog ops Q rest (a.put o.dst v') w') : wpList Try.prog ops Q (o :: rest) a (w.alloc (.cells #[.int .i64 x] 2)) := by
  subst hN
  obtain ⟨i0, hi0, hz0, hz1, hz2⟩ := info_parts Try.info2
  have hown2 : OwnI 2 B (w.alloc (.cells #[.int .i64 x] 2)) v xs := hown.ext ((Ext.refl w).alloc _)
  refine wpList_append_own_at _ hgd s u 22 ho B 2 i0 (.int .i64 0) 1 8 Try.underlying22 hi0 hz0 hz1 hz2 rfl (by decide) v _ _ hs hown2 ⟨w.heap.size, 0, none⟩ 1 1 [.int .i64 x] hx rfl ?_ ?_ ?_ ?_ ?_ ?_
  · intro j u hj
    match j, hj with
    | 0, hj =>
      simp at hj; subst hj
      rw [show (⟨w.heap.size, 0, none⟩ : Addr).add 0 = ⟨w.heap.size, 0, none⟩ by simp [Addr.add], World.cell?_alloc_at _ _ _ _ rfl]; rfl
  · intro u hu; simp at hu; subst hu; rfl
  · unfold maxLen; omega
  · omega
  · simp; omega
  · intro v' w' h1 h2 _ h4
    refine h v' w' ?_ h2 ?_ ?_
    · unfold OwnI; simpa using h1
    · rcases h4 with h4 | h4
      · exact .inl h4
      · exact .inr (.inr ⟨_, h4, Nat.le_refl _⟩)
    · have hb0 : Below B w (w.alloc (.cells #[.int .i64 x] 2)) := (Below.refl B w).alloc hB _
      exact hb0.grown h2 (by simp; omega) fun k hk => (hown2.lt k hk).1
theorem insTab_len (n : Int) : ∀ t : List (List Int), (insTab n t).length ≤ t.length + 1
  | [] => by simp [insTab]
  | r :: t => by
    unfold insTab
    split
    · simp
    · rename_i m h
      have := insTab_len m t
      simp; omega
theorem ins_len1 (n : Int) : ∀ r : List Int, (insRow n r).1.length ≤ r.length + 1
  | [] => by simp [insRow]
  | x :: xs => by
    have := ins_len1 n xs
    unfold insRow
    split <;> simp <;> omega
theorem insTab_rows {M : Nat} (n : Int) : ∀ t : List (List Int), (∀ r ∈ t, r.length ≤ M) → ∀ r ∈ insTab n t, r.length ≤ M + 1
  | [], h, r, hr => by
    simp [insTab] at hr; subst hr; simp
  | q :: t, h, r, hr => by
    have h1 := ins_len1 n q
    have h2 := h q (by simp)
    unfold insTab at hr
    split at hr
    · rcases List.mem_cons.1 hr with rfl | hr
      · omega
      · have := h r (by simp [hr]); omega
    · rename_i m hm
      rcases List.mem_cons.1 hr with rfl | hr
      · omega
      · exact insTab_rows m t (fun r hr => h r (by simp [hr])) r hr
theorem tab_bd (row : List Int) : ∀ k, k ≤ row.length → (tab (row.take k)).length ≤ k ∧ ∀ r ∈ tab (row.take k), r.length ≤ k
  | 0, _ => by simp [tab]
  | k + 1, hk => by
    obtain ⟨x, hx⟩ := get_some (show k < row.length by omega)
    have ih := tab_bd row k (by omega)
    rw [take_snoc hx, tab_snoc]
    exact ⟨by have := insTab_len x (tab (row.take k)); omega, insTab_rows x _ ih.2⟩
theorem row_cell {B N m cap g i : Nat} {w1 : World} {hs : List Value} {hd : Value} (h : w1.ownsRow B 22 1 (.slice (some ⟨g, 0, none⟩) m cap) N hs) (hh : hs[i]? = some hd) (hi : i < N) : w1.cell? ⟨g, i, none⟩ = some hd ∧ w1.frozen? ⟨g, i, none⟩ = false := by
  have hm : m = N := by
    rcases h.2 with ⟨h1, -⟩ | ⟨_, _, _, h1, _⟩
    · cases h1
    · cases h1; rfl
  subst hm
  have h3 := World.ownsRow.cellAt h i (by omega)
  rw [hh] at h3
  exact ⟨h3, World.ownsRow.frozenAt h i⟩
/-- What Tableau hands back: lists of its own. -/
def TabRet (w : World) (rows : List (List Int)) (e : Ending) (w' : World) : Prop := ∃ u hs, e = .returned u ∧ OwnT w.heap.size w' u rows hs ∧ Ext w w'
set_option maxRecDepth 100000 in
set_option maxHeartbeats 8000000 in
theorem tableau72 (v : Value) (row : List Int) (w : World) (hr : Reads w v row) : Calls Try.prog 72 #[v] w (TabRet w (tab row)) := by
  obtain ⟨hl, ar, cap, rfl⟩ := hr.shape
  obtain ⟨n, hn⟩ : ∃ n, n = row.length := ⟨_, rfl⟩
  rw [← hn] at hr hl ⊢
  have HR := Lib.hid hr; have HN := Lib.hid hn
  clear hr hn
  go_enter Try.func72, Try.ntmps72
  go_wp2
  go_loopg [3, 4] n (fun g v i wr => ∃ k : Nat, k + g = n ∧ i = .int .i64 (k : Int) ∧ Hid (∃ hs, OwnT w.heap.size wr v (tab (row.take k)) hs) ∧ Hid (Ext w wr))
  case atStart => exact ⟨0, by omega, rfl, ⟨_, OwnT.nil _ _⟩, Ext.refl _⟩
  case round =>
    obtain ⟨k, hkg, rfl, hO, hE⟩ := hrel
    by_cases hlt : k < n
    · obtain ⟨b1, off1, x, rfl, hx, hcx⟩ := (HR.out.ext hE.out).at (show k < row.length by rw [← HN.out]; exact hlt)
      have HT := Lib.hid (show tab (row.take (k + 1)) = insTab x (tab (row.take k)) from by rw [take_snoc hx, tab_snoc])
      have hbd := tab_bd row k (by rw [← HN.out]; omega)
      have hbd2 := tab_bd row (k + 1) (by rw [← HN.out]; omega)
      generalize tab (row.take k) = t0 at *
      obtain ⟨t1, ht1⟩ : ∃ t1, t1 = tab (row.take (k + 1)) := ⟨_, rfl⟩
      rw [← ht1] at HT hbd2
      have HT1 := Lib.hid ht1
      clear ht1
      have HBD := Lib.hid hbd
      have HBD2 := Lib.hid hbd2
      have hka : (0 : Int) ≤ (k : Int) := by omega
      have hkb : (k : Int) < (n : Int) := by omega
      have hl0 := hbd.1
      clear hx hbd hbd2
      go_wp2
      go_loopg [3, 5, 6, 7] (t0.length + 1) (fun g2 v2 y p l wy => (∃ (pre rest : List (List Int)) (z : Int), rest.length + 1 = g2 ∧ l = .int .i64 (pre.length : Int) ∧ pre.length ≤ k ∧ y = .int .i64 z ∧ p = .bool false ∧ Hid (t1 = pre ++ insTab z rest) ∧ Hid (∃ hs, OwnT w.heap.size wy v2 (pre ++ rest) hs) ∧ Hid (pre.length + rest.length = t0.length) ∧ Hid (∀ r ∈ rest, r.length ≤ k) ∧ Hid (Ext w wy)) ∨ (g2 = 0 ∧ p = .bool true ∧ Hid (∃ hs, OwnT w.heap.size wy v2 t1 hs) ∧ Hid (Ext w wy)))
      case atStart => exact .inl ⟨[], t0, x, rfl, rfl, Nat.zero_le _, rfl, rfl, HT.out, hO, (by simp : _ = _), HBD.out.2, hE⟩
      case round =>
        clear hO hE hcx
        rcases hrel with ⟨pre, rest, z, hg2, rfl, hpk, rfl, rfl, hT, hO, hLN, hRL, hE⟩ | ⟨hg2, rfl, hO, hE⟩
        · obtain ⟨hs, hTO⟩ := hO.out
          obtain ⟨av, capv, hv, hcv⟩ := hTO.shape
          subst hv
          obtain ⟨M, hM⟩ : ∃ M, M = (pre ++ rest).length := ⟨_, rfl⟩
          rw [← hM] at hTO hcv ⊢
          have hM2 : M = pre.length + rest.length := by rw [hM, List.length_append]
          have hlen := hLN.out
          clear hO
          cases rest with
          | nil =>
            have hMp : M = pre.length := by simpa using hM2
            have hb : ((pre.length : Int) == (M : Int)) = true := by simp [hMp]
            have HTO0 := Lib.hid hTO
            have hrl : (pre ++ ([] : List (List Int))).length ≤ 5000 := by rw [← hM]; omega
            have HRL := Lib.hid hrl
            have HMp := Lib.hid hMp
            clear hTO hM hrl hMp hM2
            go_wp2_with (at_builtin; first
              | (refine appendT wr w.heap.size (pre ++ []) hs (.slice av M capv) _ _ wr.heap.size (by simp) rfl rfl rfl HTO0.out (Below.size hE.out) HRL.out rfl ?_
                 intro v6 w6 hT6 hB6
                 obtain ⟨a6, cap6, rfl, -⟩ := hT6.shape
                 have h6 : ((pre ++ ([] : List (List Int))) ++ [[]]).length = M + 1 := by simp [HMp.out]
                 rw [h6] at hT6 ⊢
                 obtain ⟨M6, hM6⟩ : ∃ x, x = M + 1 := ⟨_, rfl⟩
                 rw [← hM6] at hT6 ⊢
                 have hMq : pre.length < M6 := by have := HMp.out; omega
                 clear hM6
                 have HTOx := Lib.hid (show OwnT w.heap.size w6 (.slice a6 M6 cap6) (pre ++ [] :: []) (hs ++ [.slice none 0 0]) from by simpa using hT6)
                 have HE6 := Lib.hid (show Ext w w6 from Below.trans hE.out hB6)
                 clear hT6 hB6 h6))
            clear hE
            have hE := HE6
            have hT := Lib.hid (show t1 = pre ++ insTab z ([] :: []) from by rw [hT.out, insTab_one])
            have HTO := HTOx
            obtain ⟨wo, rfl⟩ : ∃ wo : World, wo = w6 := ⟨_, rfl⟩
            obtain ⟨g, hd, hag, hgB, hgl, hhs, hcell, hfro, hown⟩ := HTO.out.at (i := pre.length) (by simp)
            subst hag
            rw [List.getD_eq_getElem?_getD, get_mid, Option.getD_some] at hown
            obtain ⟨ah, caph, hhd, hch⟩ := hown.shape
            subst hhd
            obtain ⟨lr, hlr⟩ : ∃ lr, lr = ([] : List Int).length := ⟨_, rfl⟩
            rw [← hlr] at hcell hown hhs hch
            have HLR := Lib.hid hlr
            have HOWN := Lib.hid hown; have HHS := Lib.hid hhs
            have hpa : (0 : Int) ≤ (pre.length : Int) := by omega
            have hpb : (pre.length : Int) < (M6 : Int) := by omega
            have hpt : (pre.length : Int).toNat = pre.length := by omega
            have hlr5 : lr ≤ 5000 := by omega
            clear hlr hown hhs
            go_wp2
            go_loopg [8] lr (fun g3 qv wy => ∃ q : Nat, q + g3 = lr ∧ qv = .int .i64 (q : Int) ∧ Hid (∀ i, i < q → tAt [] i ≤ z) ∧ wo = wy)
            case atStart => exact ⟨0, by omega, rfl, fun i h => by omega, rfl⟩
            case round =>
              obtain ⟨q, hqg, rfl, hI, rfl⟩ := hrel
              by_cases hq : q < lr
              · exfalso
                have := HLR.out
                simp at this
                omega
              · obtain rfl : q = lr := by omega
                have hq1 : ((q : Int) == (q : Int)) = true := by simp
                have hq2 : ¬ (q : Int) < (q : Int) := by omega
                have HTT := Lib.hid (show t1 = pre ++ ([] ++ [z]) :: [] from by rw [hT.out, insTab_end (by rw [← HLR.out]; exact hI.out)])
                have hr5 : ([] : List Int).length ≤ 5000 := by rw [← HLR.out]; exact hlr5
                have HR5 := Lib.hid hr5; clear hr5
                go_wp2_with (at_builtin; first
                  | (refine appendR wo w.heap.size [] z _ _ _ wo.heap.size (by simp) rfl rfl rfl HOWN.out (Below.size hE.out) HR5.out rfl ?_
                     intro v7 w7 hO7 hg7 hblk7 hB7
                     have hTx := HTO.out.ext ((Ext.refl wo).alloc (.cells #[.int .i64 z] 2))
                     have hPut := OwnT.put hTx HHS.out (by simp) hO7 hg7 hblk7
                     have hown1 := own_stay hTx.own hg7 (own_types hTx.own (HOWN.out.ext ((Ext.refl wo).alloc (.cells #[.int .i64 z] 2)) : OwnI 2 _ _ _ _) (by decide))
                     obtain ⟨hc7, hf7⟩ := row_cell hown1 HHS.out (by simp)
                     rw [set_mid, ← HTT.out] at hPut
                     obtain ⟨a7, cap7, rfl, -⟩ := hO7.shape
                     obtain ⟨l7, hl7⟩ : ∃ l7, l7 = ([] ++ [z]).length := ⟨_, rfl⟩
                     rw [← hl7] at hPut ⊢
                     have HPUT := Lib.hid hPut
                     have HE7 := Lib.hid (show Ext w w7 from Below.trans hE.out hB7)
                     have HES := Lib.hid (HE7.out.set hgB pre.length (.slice a7 l7 cap7))
                     clear hO7 hg7 hblk7 hB7 hTx hPut hown1 hl7))
                go_roundg 0
                case measure => omega
                case rel => exact .inr ⟨rfl, rfl, ⟨_, HPUT.out⟩, HES.out⟩
          | cons r rest2 =>
            have hMp : pre.length < M := by rw [hM2]; simp
            have hb : ((pre.length : Int) == (M : Int)) = false := by simp; omega
            have HTO := Lib.hid hTO
            have hr1 := hRL.out r (by simp)
            clear hTO hM hM2
            obtain ⟨wo, rfl⟩ : ∃ wo : World, wo = wr := ⟨_, rfl⟩
            obtain ⟨g, hd, hag, hgB, hgl, hhs, hcell, hfro, hown⟩ := HTO.out.at (i := pre.length) (by simp)
            subst hag
            rw [List.getD_eq_getElem?_getD, get_mid, Option.getD_some] at hown
            obtain ⟨ah, caph, hhd, hch⟩ := hown.shape
            subst hhd
            obtain ⟨lr, hlr⟩ : ∃ lr, lr = (r : List Int).length := ⟨_, rfl⟩
            rw [← hlr] at hcell hown hhs hch
            have HLR := Lib.hid hlr
            have HOWN := Lib.hid hown; have HHS := Lib.hid hhs
            have hpa : (0 : Int) ≤ (pre.length : Int) := by omega
            have hpb : (pre.length : Int) < (M : Int) := by omega
            have hpt : (pre.length : Int).toNat = pre.length := by omega
            have hlr5 : lr ≤ 5000 := by omega
            clear hlr hown hhs
            go_wp2
            go_loopg [8] lr (fun g3 qv wy => ∃ q : Nat, q + g3 = lr ∧ qv = .int .i64 (q : Int) ∧ Hid (∀ i, i < q → tAt r i ≤ z) ∧ wo = wy)
            case atStart => exact ⟨0, by omega, rfl, fun i h => by omega, rfl⟩
            case round =>
              obtain ⟨q, hqg, rfl, hI, rfl⟩ := hrel
              by_cases hq : q < lr
              · obtain ⟨gr, hgr, hrB, hrl, hcq, hfq, -⟩ := HOWN.out.at (p := q) (by rw [← HLR.out]; exact hq)
                subst hgr
                obtain ⟨y, hy⟩ : ∃ y, y = tAt r q := ⟨_, rfl⟩
                rw [← hy] at hcq
                have HY := Lib.hid hy
                have hqa : (0 : Int) ≤ (q : Int) := by omega
                have hqb : (q : Int) < (lr : Int) := by omega
                have hqt : (q : Int).toNat = q := by omega
                clear hy
                by_cases hyz : y ≤ z
                · have hd1 : decide (y ≤ z) = true := decide_eq_true hyz
                  go_wp2
                  go_roundg (lr - (q + 1))
                  case measure => omega
                  case rel => exact ⟨q + 1, by omega, by go_num, fun i hi => by
                    rcases Nat.lt_succ_iff_lt_or_eq.1 hi with h | h
                    · exact hI.out i h
                    · subst h; rw [← HY.out]; exact hyz, rfl⟩
                · have hd1 : decide (y ≤ z) = false := decide_eq_false hyz
                  have hq1 : ((q : Int) == (lr : Int)) = false := by simp; omega
                  have HSET := Lib.hid (HTO.out.set HHS.out (get_mid pre rest2 r) (p := q) (by rw [← HLR.out]; exact hq) z)
                  have HTT := Lib.hid (show t1 = (pre ++ [r.set q z]) ++ insTab y rest2 from by rw [hT.out, insTab_at hI.out (by rw [← HLR.out]; exact hq) (by rw [← HY.out]; omega), HY.out]; simp)
                  have HEE := Lib.hid (hE.out.set hrB q (.int .i64 z))
                  go_wp2
                  go_region_law (fail)
                  all_goals
                    go_wp2
                    go_roundg (rest2.length + 1)
                    case measure => simp at *; omega
                    case rel =>
                      refine .inl ⟨pre ++ [r.set q z], rest2, y, rfl, ?_, ?_, rfl, rfl, HTT.out, ?_, ?_, ?_, HEE.out.drew⟩
                      · rw [List.length_append]; go_num
                      · have := hLN.out; simp at this ⊢; omega
                      · obtain hh := HSET.out.ext (Ext.refl _).drew
                        rw [set_mid] at hh
                        exact ⟨_, by simpa using hh⟩
                      · have := hLN.out; show _ = _; simp at this ⊢; omega
                      · exact fun r hr => hRL.out r (by simp [hr])
              · obtain rfl : q = lr := by omega
                have hq1 : ((q : Int) == (q : Int)) = true := by simp
                have hq2 : ¬ (q : Int) < (q : Int) := by omega
                have HTT := Lib.hid (show t1 = pre ++ (r ++ [z]) :: rest2 from by rw [hT.out, insTab_end (by rw [← HLR.out]; exact hI.out)])
                have hr5 : (r : List Int).length ≤ 5000 := by rw [← HLR.out]; exact hlr5
                have HR5 := Lib.hid hr5; clear hr5
                go_wp2_with (at_builtin; first
                  | (refine appendR wo w.heap.size r z _ _ _ wo.heap.size (by simp) rfl rfl rfl HOWN.out (Below.size hE.out) HR5.out rfl ?_
                     intro v7 w7 hO7 hg7 hblk7 hB7
                     have hTx := HTO.out.ext ((Ext.refl wo).alloc (.cells #[.int .i64 z] 2))
                     have hPut := OwnT.put hTx HHS.out (by simp) hO7 hg7 hblk7
                     have hown1 := own_stay hTx.own hg7 (own_types hTx.own (HOWN.out.ext ((Ext.refl wo).alloc (.cells #[.int .i64 z] 2)) : OwnI 2 _ _ _ _) (by decide))
                     obtain ⟨hc7, hf7⟩ := row_cell hown1 HHS.out (by simp)
                     rw [set_mid, ← HTT.out] at hPut
                     obtain ⟨a7, cap7, rfl, -⟩ := hO7.shape
                     obtain ⟨l7, hl7⟩ : ∃ l7, l7 = (r ++ [z]).length := ⟨_, rfl⟩
                     rw [← hl7] at hPut ⊢
                     have HPUT := Lib.hid hPut
                     have HE7 := Lib.hid (show Ext w w7 from Below.trans hE.out hB7)
                     have HES := Lib.hid (HE7.out.set hgB pre.length (.slice a7 l7 cap7))
                     clear hO7 hg7 hblk7 hB7 hTx hPut hown1 hl7))
                go_roundg 0
                case measure => omega
                case rel => exact .inr ⟨rfl, rfl, ⟨_, HPUT.out⟩, HES.out⟩
        · go_wp2
          go_roundg (n - (k + 1))
          case measure => omega
          case rel => exact ⟨k + 1, by omega, by go_num, (by rw [← HT1.out]; exact hO.out : ∃ hs, _), hE⟩
    · obtain rfl : n = k := by omega
      obtain ⟨hs, hT⟩ := hO.out
      rw [List.take_of_length_le (by rw [← HN.out]; exact Nat.le_refl _)] at hT
      have HT := Lib.hid hT
      clear hT hO
      go_wp2
      try rw [Exit.noGoto_ret]
      go_ret
      exact ⟨_, hs, rfl, HT.out, hE.out⟩
end Go.Proofs.Ytclcippfodjfeaa
namespace Go.Proofs.Ytclcippfodjfeaa
open Go.RowKit
set_option linter.unusedVariables false
set_option linter.unusedSimpArgs false
def shapeI (row : List Int) : List Int := (shapeL row).map fun (n : Nat) => (n : Int)
theorem shapeI_len (row : List Int) : (shapeI row).length = (tab row).length := by simp [shapeI, shapeL]
theorem tab_all (row : List Int) : (tab row).length ≤ row.length ∧ ∀ r ∈ tab row, r.length ≤ row.length := by
  have := tab_bd row row.length (Nat.le_refl _)
  rwa [List.take_of_length_le (Nat.le_refl _)] at this
theorem shapeI_at {row : List Int} {k : Nat} {x : Int} (h : (shapeI row)[k]? = some x) : 0 ≤ x ∧ x ≤ row.length := by
  unfold shapeI shapeL at h
  rw [List.getElem?_map, List.getElem?_map] at h
  cases hr : (tab row)[k]? with
  | none => rw [hr] at h; cases h
  | some r =>
    rw [hr] at h
    simp at h
    have := (tab_all row).2 r (List.mem_of_getElem? hr)
    omega
set_option maxRecDepth 100000 in
set_option maxHeartbeats 2000000 in
theorem shapeOf55 (v : Value) (row : List Int) (w : World) (hr : Reads w v row) :
    Calls Try.prog 55 #[v] w fun e w' => ∃ u, e = .returned u ∧ Reads w' u (shapeI row) ∧ Ext w w' := by
  obtain ⟨hl, ar, cap, rfl⟩ := hr.shape
  have H72 := Lib.hid (tableau72 _ row w hr)
  have hta := tab_all row
  have hsl := shapeI_len row
  have HSH := Lib.hid (fun (k : Nat) (r : List Int) (h : (tab row)[k]? = some r) => (show (shapeI row)[k]? = some (r.length : Int) from by simp [shapeI, shapeL, h]))
  obtain ⟨n, hn⟩ : ∃ n, n = row.length := ⟨_, rfl⟩
  rw [← hn] at H72 hta hl ⊢
  clear hr hn
  generalize tab row = t at *
  generalize shapeI row = sh at *
  obtain ⟨m, hm⟩ : ∃ m, m = t.length := ⟨_, rfl⟩
  rw [← hm] at hta hsl
  have HM := Lib.hid hm; have HSL := Lib.hid hsl
  have hmn := hta.1
  clear hm hta hsl
  go_enter Try.func55, Try.ntmps55
  go_wp2_with fail
  refine H72.out.mono ?_
  rintro e w1 ⟨u, hs, rfl, hT, hb⟩
  obtain ⟨au, capu, hu, hcu⟩ := hT.shape
  subst hu
  rw [← HM.out] at hT hcu ⊢
  have HT := Lib.hid hT; have HB := Lib.hid hb
  clear hT hb
  go_wp2_with fail
  go_loopg [4, 5] m (fun g o i wr => ∃ k : Nat, k + g = m ∧ i = .int .i64 (k : Int) ∧ Hid (OwnI 3 w1.heap.size wr o (sh.take k)) ∧ Hid (Ext w1 wr))
  case atStart => exact ⟨0, by omega, rfl, OwnI.nil _ _ _, Ext.refl _⟩
  case round =>
    obtain ⟨k, hkg, rfl, hO, hE⟩ := hrel
    by_cases hlt : k < m
    · obtain ⟨r, hr⟩ := get_some (show k < t.length by rw [← HM.out]; exact hlt)
      obtain ⟨g, hd, hag, hgB, hgl, hhs, hcell, hfro, hown⟩ := (HT.out.ext hE.out).at (i := k) (by rw [← HM.out]; exact hlt)
      subst hag
      rw [List.getD_eq_getElem?_getD, hr, Option.getD_some] at hown
      obtain ⟨ah, caph, hhd, hch⟩ := hown.shape
      subst hhd
      have HPS := Lib.hid (take_snoc (HSH.out k r hr))
      obtain ⟨lr, hlr⟩ : ∃ lr, lr = r.length := ⟨_, rfl⟩
      rw [← hlr] at hcell HPS
      have hka : (0 : Int) ≤ (k : Int) := by omega
      have hkb : (k : Int) < (m : Int) := by omega
      have hql : (sh.take k).length ≤ 5000 := by rw [List.length_take]; omega
      clear hr hown hhs hch hlr
      go_wp2_with (at_builtin; first
        | (refine appendN Try.underlying23 Try.info3 wr w1.heap.size (sh.take k) (lr : Int) _ _ _ wr.heap.size (by simp) rfl rfl rfl hO.out (Below.size hE.out) hql rfl ?_
           intro v6 w6 hO6 hB6
           have HO6 := Lib.hid hO6
           have HE6 := Lib.hid (show Ext w1 w6 from Below.trans hE.out hB6)
           clear hO6 hB6)
        | fail)
      go_roundg (m - (k + 1))
      case measure => omega
      case rel => exact ⟨k + 1, by omega, by go_num, (by rw [HPS.out]; exact HO6.out : OwnI _ _ _ _ _), HE6.out⟩
    · obtain rfl : m = k := by omega
      have HRR := Lib.hid (show Reads wr _ sh from by
        have h1 := hO.out.reads (by rw [List.length_take]; omega)
        rw [List.take_of_length_le (by rw [HSL.out]; exact Nat.le_refl _)] at h1
        exact h1)
      go_wp2
      try rw [Exit.noGoto_ret]
      go_ret
      exact ⟨_, rfl, HRR.out, HB.out.trans hE.out⟩
/-- How many logs some pockets take at most. -/
def mostV (row : List Int) (many : Int) : Int := ((shapeI row).take many.toNat).sum
theorem shapeI_sum (row : List Int) : ∀ k, k ≤ (shapeI row).length → 0 ≤ ((shapeI row).take k).sum ∧ ((shapeI row).take k).sum ≤ (k : Int) * (row.length : Int)
  | 0, _ => by simp
  | k + 1, hk => by
    have ih := shapeI_sum row k (by omega)
    obtain ⟨x, hx⟩ := get_some (show k < (shapeI row).length by omega)
    have h1 := shapeI_at hx
    rw [take_snoc hx, List.sum_append]
    have e : ((k + 1 : Nat) : Int) * (row.length : Int) = (k : Int) * (row.length : Int) + (row.length : Int) := by rw [Int.natCast_succ, Int.add_mul, Int.one_mul]
    rw [e]
    simp only [List.sum_cons, List.sum_nil]
    omega
set_option maxRecDepth 100000 in
set_option maxHeartbeats 2000000 in
theorem mostOf42 (v : Value) (row : List Int) (many : Int) (w : World) (hr : Reads w v row) :
    Calls Try.prog 42 #[v, .int .i64 many] w fun e w' => e = .returned (.int .i64 (mostV row many)) ∧ Ext w w' := by
  obtain ⟨hl, ar, cap, rfl⟩ := hr.shape
  have H55 := Lib.hid (shapeOf55 _ row w hr)
  have hta := (tab_all row).1
  have hsl := shapeI_len row
  have hss := shapeI_sum row
  have hat := fun k x h => @shapeI_at row k x h
  obtain ⟨r, hrr⟩ : ∃ r, r = mostV row many := ⟨_, rfl⟩
  rw [← hrr]
  unfold mostV at hrr
  obtain ⟨n, hn⟩ : ∃ n, n = row.length := ⟨_, rfl⟩
  rw [← hn] at H55 hta hl hss hat ⊢
  clear hr hn
  generalize shapeI row = sh at *
  obtain ⟨m, hm⟩ : ∃ m, m = sh.length := ⟨_, rfl⟩
  rw [← hm] at hsl hss
  rw [← hsl] at hta
  have HM := Lib.hid hm; have HSS := Lib.hid hss; have HRR := Lib.hid hrr; have HAT := Lib.hid hat
  clear hm hsl hss hrr hat
  go_enter Try.func42, Try.ntmps42
  go_wp2_with fail
  refine H55.out.mono ?_
  rintro e w1 ⟨u, rfl, hU, hb⟩
  obtain ⟨hl5, au, capu, hu⟩ := hU.shape
  subst hu
  rw [← HM.out] at hU ⊢
  have HU := Lib.hid hU; have HB := Lib.hid hb
  clear hU hb hl5
  go_wp2_with fail
  go_loopg [6, 7] m (fun g o i wr => ∃ k : Nat, k + g = m ∧ i = .int .i64 (k : Int) ∧ o = .int .i64 ((sh.take k).sum) ∧ k ≤ many.toNat ∧ Hid (Ext w1 wr))
  case atStart => exact ⟨0, by omega, rfl, by simp, by omega, Ext.refl _⟩
  case round =>
    obtain ⟨k, hkg, rfl, rfl, hkm, hE⟩ := hrel
    have hsum := HSS.out k (by omega)
    have hb1 : (k : Int) * (n : Int) ≤ 25000000 := by
      have h1 : k * n ≤ 5000 * 5000 := Nat.mul_le_mul (by omega) hl
      have h2 : ((k * n : Nat) : Int) = (k : Int) * (n : Int) := by simp
      omega
    obtain ⟨s, hs⟩ : ∃ s, s = (sh.take k).sum := ⟨_, rfl⟩
    rw [← hs] at hsum ⊢
    by_cases hlt : k < m
    · obtain ⟨b1, off1, x, hb, hx, hcx⟩ := (HU.out.ext hE.out).at (show k < sh.length by rw [← HM.out]; exact hlt)
      subst hb
      have hxb := HAT.out k x hx
      have HPS := Lib.hid (show (sh.take (k + 1)).sum = s + x from by rw [take_snoc hx, List.sum_append, ← hs]; simp)
      have hka : (0 : Int) ≤ (k : Int) := by omega
      have hkb : (k : Int) < (m : Int) := by omega
      have hws : IntKind.i64.wrap (s + x) = s + x := wrapi64 _ (by omega) (by omega)
      by_cases hkmany : (k : Int) < many
      · have hd : decide ((k : Int) < many) = true := decide_eq_true hkmany
        clear hx hs
        go_wp2
        go_roundg (m - (k + 1))
        case measure => omega
        case rel => exact ⟨k + 1, by omega, by go_num, by rw [HPS.out], by omega, hE.out⟩
      · have hd : decide ((k : Int) < many) = false := decide_eq_false hkmany
        have HR := Lib.hid (show s = r from by rw [HRR.out, hs, show many.toNat = k by omega])
        clear hx hs
        go_wp2
        try rw [Exit.noGoto_ret]
        go_ret
        exact ⟨by rw [← HR.out]; rfl, HB.out.trans hE.out⟩
    · obtain rfl : m = k := by omega
      have HR := Lib.hid (show s = r from by rw [HRR.out, hs, List.take_of_length_le (by rw [← HM.out]; exact Nat.le_refl _), List.take_of_length_le (by rw [← HM.out]; exact hkm)])
      clear hs
      go_wp2
      try rw [Exit.noGoto_ret]
      go_ret
      exact ⟨by rw [← HR.out]; rfl, HB.out.trans hE.out⟩
theorem refMost24 (v : Value) (row : List Int) (many : Int) (w : World) (hr : Reads w v row) :
    Calls Try.prog 24 #[v, .int .i64 many] w fun e w' => e = .returned (.tuple #[.int .i64 (if askE row many = 0 then mostV row many else 0), .int .i64 (askE row many)]) ∧ Ext w w' := by
  have h41 := refAsked41 v row many w hr
  have H42 := Lib.hid (mostOf42 v row many w hr)
  obtain ⟨hl, ar, cap, rfl⟩ := hr.shape
  clear hr
  generalize askE row many = c at *
  generalize mostV row many = r at *
  generalize row.length = n at *
  have H41 := Lib.hid h41; clear h41
  by_cases hc : c = 0
  · subst hc
    rw [if_pos rfl]
    go_enter Try.func24, Try.ntmps24
    go_wp2_with fail
    refine H41.out.mono ?_
    rintro e w' ⟨rfl, rfl⟩
    go_wp2_with fail
    refine H42.out.mono ?_
    rintro e w' ⟨rfl, hb⟩
    have HB := Lib.hid hb; clear hb
    go_wp2
    go_ret2
    exact ⟨rfl, HB.out⟩
  · rw [if_neg hc]
    have hd : (c != 0) = true := by simpa using hc
    go_enter Try.func24, Try.ntmps24
    go_wp2_with fail
    refine H41.out.mono ?_
    rintro e w' ⟨rfl, rfl⟩
    go_wp2_with fail
    refine H41.out.mono ?_
    rintro e w' ⟨rfl, rfl⟩
    go_wp2
    go_ret2
    exact ⟨rfl, Ext.refl _⟩
theorem refFewest26 (v : Value) (row : List Int) (w : World) (hr : Reads w v row) :
    Calls Try.prog 26 #[v] w fun e w' => e = .returned (.tuple #[.int .i64 (if chkR row = 0 then ((tab row).length : Int) else 0), .int .i64 (chkR row)]) ∧ Ext w w' := by
  have h22 := refRow22 v row w hr
  have H55 := Lib.hid (shapeOf55 v row w hr)
  have hsl := shapeI_len row
  obtain ⟨hl, ar, cap, rfl⟩ := hr.shape
  clear hr
  generalize chkR row = c at *
  generalize shapeI row = sh at *
  generalize (tab row).length = m at *
  generalize row.length = n at *
  have H22 := Lib.hid h22; have HSL := Lib.hid hsl; clear h22 hsl
  by_cases hc : c = 0
  · subst hc
    rw [if_pos rfl]
    go_enter Try.func26, Try.ntmps26
    go_wp2_with fail
    refine H22.out.mono ?_
    rintro e w' ⟨rfl, rfl⟩
    go_wp2_with fail
    refine H55.out.mono ?_
    rintro e w' ⟨u, rfl, hU, hb⟩
    obtain ⟨hl5, au, capu, hu⟩ := hU.shape
    subst hu
    rw [HSL.out]
    have HB := Lib.hid hb; clear hb hU hl5
    go_wp2
    go_ret2
    exact ⟨rfl, HB.out⟩
  · rw [if_neg hc]
    have hd : (c != 0) = true := by simpa using hc
    go_enter Try.func26, Try.ntmps26
    go_wp2_with fail
    refine H22.out.mono ?_
    rintro e w' ⟨rfl, rfl⟩
    go_wp2_with fail
    refine H22.out.mono ?_
    rintro e w' ⟨rfl, rfl⟩
    go_wp2
    go_ret2
    exact ⟨rfl, Ext.refl _⟩
theorem refShape28 (v : Value) (row : List Int) (w : World) (hr : Reads w v row) :
    Calls Try.prog 28 #[v] w (ListRef w (chkR row) (shapeI row)) := by
  have h22 := refRow22 v row w hr
  have H55 := Lib.hid (shapeOf55 v row w hr)
  obtain ⟨hl, ar, cap, rfl⟩ := hr.shape
  clear hr
  generalize chkR row = c at *
  generalize shapeI row = sh at *
  generalize row.length = n at *
  have H22 := Lib.hid h22; clear h22
  by_cases hc : c = 0
  · subst hc
    go_enter Try.func28, Try.ntmps28
    go_wp2_with fail
    refine H22.out.mono ?_
    rintro e w' ⟨rfl, rfl⟩
    go_wp2_with fail
    refine H55.out.mono ?_
    rintro e w' ⟨u, rfl, hU, hb⟩
    have HB := Lib.hid hb; have HU := Lib.hid hU; clear hb hU
    go_wp2
    go_ret2
    exact ⟨.inr ⟨rfl, _, rfl, HU.out⟩, HB.out⟩
  · have HC := Lib.hid hc
    have hd : (c != 0) = true := by simpa using hc
    clear hc
    go_enter Try.func28, Try.ntmps28
    go_wp2_with fail
    refine H22.out.mono ?_
    rintro e w' ⟨rfl, rfl⟩
    go_wp2_with fail
    refine H22.out.mono ?_
    rintro e w' ⟨rfl, rfl⟩
    go_wp2
    go_ret2
    exact ⟨.inl ⟨HC.out, rfl⟩, Ext.refl _⟩
end Go.Proofs.Ytclcippfodjfeaa
