/- Own lists whose elements are read and stored; a list of numbers of eight bits; a set whose strokes have other names (54). -/
import Derived.Test.YtlgdnbpboonhdaaZ0
import Derived.Test.YtlgdnbpboonhdaaV4
import Derived.Test.YtlgdnbpboonhdaaJ1
import Derived.Test.YtlgdnbpboonhdaaZR
import Derived.Lib.BufferOwn
import Derived.Laws.OwnMore
import Derived.Deep.RegionLaw
namespace Go.Proofs.Ytlgdnbpboonhdaa
open Go.RowKit Go.Shelf Go.Maps Go.WideShapes Go.ChangeShapes
set_option linter.unusedVariables false
set_option linter.unusedSimpArgs false
attribute [local go_sem] Oper.semAt_some
theorem cell_of_blk {W : World} {b : Nat} {cs : Array Value} {t : TypeId} {fr : Nat × Nat} (h : W.heap[b]? = some (.cells cs t fr)) {o : Nat} {v : Value} (hv : cs[o]? = some v) : W.cell? ⟨b, o, none⟩ = some v := by
  simp [World.cell?, h, hv]
theorem frozen_of_blk {W : World} {b : Nat} {cs : Array Value} {t : TypeId} (h : W.heap[b]? = some (.cells cs t (0, 0))) (o : Nat) : W.frozen? ⟨b, o, none⟩ = false := by
  simp [World.frozen?, h]
theorem grown_set (W : World) (b o : Nat) (v : Value) : W.grownBy (W.setCell ⟨b, o, none⟩ v) (some b) := by
  refine ⟨rfl, rfl, rfl, by simp [World.setCell], fun k _ hk => ?_⟩
  show (W.heap.modify b _)[k]? = _
  rw [Array.getElem?_modify, if_neg (fun e => hk (by rw [e]))]
theorem set_blk {W : World} {b o : Nat} {cs : List Value} {t : TypeId} {fr : Nat × Nat} (h : W.heap[b]? = some (.cells cs.toArray t fr)) (v : Value) : (W.setCell ⟨b, o, none⟩ v).heap[b]? = some (.cells (cs.set o v).toArray t fr) := by
  show (W.heap.modify b _)[b]? = _
  rw [Array.getElem?_modify, if_pos rfl, h]
  simp
theorem other_blk {W W' : World} {b g : Nat} (hg : W.grownBy W' (some b)) (hne : g ≠ b) (hlt : g < W.heap.size) : W'.heap[g]? = W.heap[g]? := hg.block g hlt (fun e => hne (by cases e; rfl))
theorem lt_of_blk {w : World} {b : Nat} {o : Obj} (h : w.heap[b]? = some o) : b < w.heap.size := (Array.getElem?_eq_some_iff.1 h).1
theorem addr_add (b off j : Nat) : (⟨b, off, none⟩ : Addr).add j = ⟨b, off + j, none⟩ := by unfold Addr.add; split <;> simp_all
theorem far_ {X : World} {b o b' o' : Nat} {v u : Value} (h : X.cell? ⟨b, o, none⟩ = some v) (hne : b' ≠ b) : (X.setCell ⟨b', o', none⟩ u).cell? ⟨b, o, none⟩ = some v := (World.cell?_setCell_far X ⟨b', o', none⟩ ⟨b, o, none⟩ u hne).trans h
theorem own_shape {B : Nat} {w : World} {v : Value} {xs : List Int} (h : Owns B w v xs) : ∃ a cap, v = .slice a xs.length cap ∧ xs.length ≤ cap := by
  obtain ⟨_, ⟨rfl, h0⟩ | ⟨g, cap, cur, rfl, hb, hh, hn, hc, hs, ht⟩⟩ := h
  · exact ⟨none, 0, by rw [h0], by omega⟩
  · exact ⟨_, cap, rfl, hn⟩
theorem Owns.at {B m cap : Nat} {w : World} {a : Option Addr} {xs : List Int} (h : Owns B w (.slice a m cap) xs) {p : Nat} (hp : p < xs.length) :
    ∃ g, a = some ⟨g, 0, none⟩ ∧ B ≤ g ∧ g < w.heap.size ∧ w.cell? ⟨g, p, none⟩ = some (.int .i64 (xs.getD p 0)) ∧ w.frozen? ⟨g, p, none⟩ = false ∧ ∀ x, Owns B (w.setCell ⟨g, p, none⟩ (.int .i64 x)) (.slice a m cap) (xs.set p x) := by
  obtain ⟨a', cap', hv, hc⟩ := own_shape h
  cases hv
  rcases h.2 with ⟨h1, h2⟩ | ⟨g, cap', cur, h1, hB, hg, _⟩
  · exfalso; omega
  · cases h1
    refine ⟨g, rfl, hB, lt_of_blk hg, ?_, World.ownsRow.frozenAt h p, fun x => ?_⟩
    · have h3 := World.ownsRow.cellAt h p (by omega)
      rw [h3, List.getElem?_map]; simp [List.getD_eq_getElem?_getD, List.getElem?_eq_getElem hp]
    · have h3 := (World.ownsRow.stored h p (.int .i64 x)).1
      show World.ownsRow _ _ _ _ _ _ _
      rw [List.length_set, List.map_set]
      exact h3
def Reads8 (w : World) (v : Value) (xs : List Nat) : Prop :=
  xs.length ≤ 5000 ∧ ∃ a cap, v = .slice a xs.length cap ∧ ((a = none ∧ xs = []) ∨ ∃ b off, a = some ⟨b, off, none⟩ ∧ ∀ (i x : Nat), xs[i]? = some x → w.cell? ⟨b, off + i, none⟩ = some (.int .u8 (x : Int)))
theorem Reads8.ext {w w' : World} {v : Value} {xs : List Nat} (h : Reads8 w v xs) (hb : Ext w w') : Reads8 w' v xs := by
  obtain ⟨hl, a, cap, rfl, h⟩ := h
  refine ⟨hl, a, cap, rfl, h.imp id ?_⟩
  rintro ⟨b, off, rfl, hc⟩
  exact ⟨b, off, rfl, fun i x hx => cell_ext hb (hc i x hx)⟩
theorem Reads8.at {w : World} {a : Option Addr} {n cap : Nat} {xs : List Nat} (h : Reads8 w (.slice a n cap) xs) {k x : Nat} (hk : xs[k]? = some x) : ∃ b off, a = some ⟨b, off, none⟩ ∧ w.cell? ⟨b, off + k, none⟩ = some (.int .u8 (x : Int)) := by
  obtain ⟨hl, a', cap', e, h⟩ := h
  cases e
  rcases h with ⟨rfl, rfl⟩ | ⟨b, off, rfl, hc⟩
  · simp at hk
  · exact ⟨b, off, rfl, hc k x hk⟩
theorem Ext.trans2 {a b c : World} (h : Ext a b) (k : Below a.heap.size b c) : Ext a c := Below.trans h k
theorem below_cell {W X X' : World} {b o : Nat} {v v0 : Value} (h : Ext W X) (hb : Below W.heap.size X X') (h0 : W.cell? ⟨b, o, none⟩ = some v0) (hc : X.cell? ⟨b, o, none⟩ = some v) : X'.cell? ⟨b, o, none⟩ = some v := by
  rw [hb.cell (p := ⟨b, o, none⟩) (lt_of_cell h0)]
  exact hc
theorem wp_append1 {o : Oper} {a : Act} {K : Act → World → Prop} {Q : Exit → Act → World → Prop} (w : World) (B : Nat) (xs : List Int) (x : Int) (v : Value) (s t : Operand)
    (ho : o.op = .call { callee := .builtin .append, args := #[s, t], argTypes := #[22, 22] }) (hs : a.eval s = v) (hown : Owns B w v xs) (hB : B ≤ w.heap.size) (hl : xs.length ≤ 5000)
    (hx : a.eval t = .slice (some ⟨w.heap.size, 0, none⟩) 1 1)
    (h : ∀ v' w', Owns B w' v' (xs ++ [x]) → Below B (w.alloc (.cells #[.int .i64 x] 3)) w' → K (a.put o.dst v') w') : o.wp Try.prog a (w.alloc (.cells #[.int .i64 x] 3)) K Q := by
  obtain ⟨i0, hi0, hz0, hz1, hz2⟩ := info_parts Try.info3
  have hown2 : Owns B (w.alloc (.cells #[.int .i64 x] 3)) v xs := ownsI_ext hown ((Ext.refl w).alloc _)
  refine wp_append_own _ s t 22 ho B 3 i0 (.int .i64 0) 1 8 Try.underlying22 hi0 hz0 hz1 hz2 rfl (by decide) v _ _ hs hown2 ⟨w.heap.size, 0, none⟩ 1 1 [.int .i64 x] hx rfl ?_ ?_ ?_ ?_ ?_ ?_
  · intro j u hj
    match j, hj with
    | 0, hj =>
      simp at hj; subst hj
      rw [show (⟨w.heap.size, 0, none⟩ : Addr).add 0 = ⟨w.heap.size, 0, none⟩ by simp [Addr.add], World.cell?_alloc_at _ _ _ _ rfl]; rfl
  · intro u hu; simp at hu; subst hu; rfl
  · unfold maxLen; omega
  · omega
  · simp; omega
  · intro v' w' h1 h2 _
    refine h v' w' ?_ ?_
    · unfold Owns; simpa using h1
    · exact (Below.refl B _).grown h2 (by simp; omega) fun k hk => (hown2.lt k hk).1
theorem cells5Z : Try.prog.cellsOf 5 = 1 := by kernel_rfl
set_option maxRecDepth 100000 in
theorem spot_none8 {w : World} {r : Reach} {base : Nat} {a : Addr} {len cap : Nat} (h : Cell.okWide Try.prog w r base 59 (.slice (some a) len cap)) : a.spot = none := by
  simp only [Cell.okWide, Try.underlying59, Cell.ok, World.has] at h
  exact h.2.2.2.1
theorem wf8 {x : Int} (h : (Lit.int .u8 x).wf = true) : 0 ≤ x ∧ x ≤ 255 := by simp [Lit.wf, IntKind.min, IntKind.max, IntKind.bits, IntKind.signed] at h; omega
set_option maxRecDepth 100000 in
theorem open_list8 {H : Type} {enc : TypeId × Value → H} {W : World} {v : Value} {d : DataW H} {p : List MemPlace} {r : Reach} {base : Nat} (ho : Value.okWide Try.prog W r base 59 v) (h : DataW.Trod enc Try.prog W 0 (fun _ => true) true 59 v d p) :
    ∃ a cap, ∃ xs : List Nat, v = .slice a xs.length cap ∧ (xs.length ≤ cap ∧ cap ≤ 9223372036854775807) ∧ (∀ x ∈ xs, x ≤ 255) ∧ (xs.length ≤ 5000 → Reads8 W v xs) := by
  have ho2 : Cell.okWide Try.prog W r base 59 v := by
    simp only [Value.okWide, Try.underlying59] at ho
    exact ho
  obtain ⟨fuel, h⟩ := h
  have hv : v.cells.toList = [v] := by
    cases v <;> first | rfl | (exfalso; simp [Cell.okWide, Try.underlying59, Cell.ok] at ho2)
  rw [hv] at h
  rcases open_ints Try.underlying59 Try.underlying5 cells5Z h with ⟨hcs, -⟩ | ⟨a, len, cap, zs, hcs, -, hl, hm, hz, -, hcell, hwf⟩
  · simp at hcs
    exact ⟨none, 0, [], hcs, ⟨Nat.le_refl _, by omega⟩, fun x hx => (by cases hx), fun _ => by rw [hcs]; exact ⟨by simp, none, 0, rfl, .inl ⟨rfl, rfl⟩⟩⟩
  · simp at hcs
    simp only [if_true] at hz
    have hlen : ((zs.take len).map Int.toNat).length = len := by simp; omega
    have hb : ∀ x ∈ zs, 0 ≤ x ∧ x ≤ 255 := fun x hx => wf8 (hwf x hx)
    refine ⟨some a, cap, (zs.take len).map Int.toNat, by rw [hlen]; exact hcs, ⟨by rw [hlen]; exact hl, by unfold maxLen at hm; omega⟩, fun x hx => ?_, fun h5 => ?_⟩
    · rw [List.mem_map] at hx
      obtain ⟨z, hz2, rfl⟩ := hx
      have := hb z (List.mem_of_mem_take hz2)
      omega
    · rw [hcs]
      rw [hcs] at ho2
      have hs := spot_none8 ho2
      obtain ⟨b, off, spot⟩ := a
      obtain rfl : spot = none := hs
      refine ⟨h5, _, cap, by rw [hlen], .inr ⟨b, off, rfl, fun i x hx => ?_⟩⟩
      have hil : i < len := by
        have := (List.getElem?_eq_some_iff.1 hx).1
        rwa [hlen] at this
      rw [List.getElem?_map, List.getElem?_take_of_lt hil] at hx
      cases hzi : zs[i]? with
      | none => rw [hzi] at hx; cases hx
      | some z =>
        rw [hzi] at hx
        simp at hx
        have hzb := hb z (List.mem_of_getElem? hzi)
        have hc := hcell i (by have := (List.getElem?_eq_some_iff.1 hzi).1; exact this)
        rw [List.getD_eq_getElem?_getD, hzi] at hc
        have hadd : (⟨b, off, none⟩ : Addr).add i = ⟨b, off + i, none⟩ := by unfold Addr.add; split <;> simp_all
        rw [hadd] at hc
        rw [hc, ← hx]
        simp
        omega
theorem wrapPow (k : Nat) (h : k < 12) : wrap64 (2 ^ k) = ((2 ^ k : Nat) : Int) := by
  have : k = 0 ∨ k = 1 ∨ k = 2 ∨ k = 3 ∨ k = 4 ∨ k = 5 ∨ k = 6 ∨ k = 7 ∨ k = 8 ∨ k = 9 ∨ k = 10 ∨ k = 11 := by omega
  rcases this with rfl | rfl | rfl | rfl | rfl | rfl | rfl | rfl | rfl | rfl | rfl | rfl <;> simp [wrap64]
set_option maxRecDepth 100000 in
set_option maxHeartbeats 1000000 in
theorem named54 (S x : Nat) (σ : List Nat) (a : Option Addr) (cap : Nat) (w : World) (h : IsName S σ) (hS : S ≤ 10) (hx : x < 1024) (hr : Reads w (.slice a S cap) (ints σ)) :
    Calls Try.prog 54 #[.int .i64 (x : Int), .slice a S cap] w fun e w' => e = .returned (.int .i64 (nmTo σ x S : Int)) ∧ w = w' := by
  have HR := Lib.hid hr; have HN := Lib.hid h
  clear hr h
  go_enter Try.func54, Try.ntmps54
  go_wp2
  go_loop [5, 6] (fun o i => ∃ k : Nat, k ≤ S ∧ i = .int .i64 (k : Int) ∧ o = .int .i64 (nmTo σ x k : Int)) (fun o i => S - (RowKit.intOf i).toNat)
  case atStart => exact ⟨0, Nat.zero_le _, rfl, rfl⟩
  case round =>
    obtain ⟨k, hk, rfl, rfl⟩ := hrel
    have h1 := shr_and x k (by omega)
    by_cases hlt : k < S
    · obtain ⟨q, hq⟩ := get_some (show k < σ.length by rw [HN.out.len]; exact hlt)
      obtain ⟨b1, off1, hbo, -, c0⟩ := HR.out.atN hq
      subst hbo
      have hqe : mAt σ k = q := by unfold mAt; rw [hq]; rfl
      have hql : q < S := by rw [← hqe]; exact HN.out.at_lt hlt
      have hka : (0 : Int) ≤ (k : Int) := by omega
      have hkb : (k : Int) < (S : Int) := by omega
      obtain ⟨b, hb⟩ : ∃ b, b = x / 2 ^ k % 2 := ⟨_, rfl⟩
      have hb2 : b < 2 := by rw [hb]; exact Nat.mod_lt _ (by decide)
      have hbit : x.testBit k = decide (b = 1) := by rw [hb, Nat.testBit_eq_decide_div_mod_eq]
      rw [← hb] at h1
      have hb1024 := Nat.lt_of_lt_of_le (nmTo_lt HN.out x k hk) (Nat.pow_le_pow_right (show 0 < 2 by decide) hS)
      obtain ⟨c, hc⟩ : ∃ c, c = nmTo σ x k := ⟨_, rfl⟩
      obtain ⟨d, hd⟩ : ∃ d, d = nmTo σ x (k + 1) := ⟨_, rfl⟩
      by_cases hb1 : b = 1
      · subst hb1
        have hadd := nmTo_add HN.out hS x k hlt (by rw [hbit]; rfl)
        have hd1024 := Nat.lt_of_lt_of_le (nmTo_lt HN.out x (k + 1) hlt) (Nat.pow_le_pow_right (show 0 < 2 by decide) hS)
        have hpw := wrapPow q (by omega)
        have hmin : min q 64 = q := Nat.min_eq_left (by omega)
        rw [hqe] at hadd
        obtain ⟨p, hp⟩ : ∃ p, p = 2 ^ q := ⟨_, rfl⟩
        rw [← hp] at hadd hpw
        rw [← hc] at hadd hb1024 ⊢
        rw [← hd] at hadd hd1024
        have e8 : (c : Int) + (p : Int) = (d : Int) := by omega
        have hqa : (0 : Int) ≤ (q : Int) := by omega
        have HD := Lib.hid hd
        clear hq hqe hb hbit hp hadd hd hc
        go_wp2
        go_round
        case rel => exact ⟨k + 1, by omega, by go_num, by rw [← HD.out]⟩
        case measure => simp [RowKit.intOf]; omega
      · obtain rfl : b = 0 := by omega
        have hdc : nmTo σ x (k + 1) = nmTo σ x k := by
          show (if x.testBit k = true then _ else _) = _
          rw [if_neg (by rw [hbit]; simp)]
        rw [← hd, ← hc] at hdc
        rw [← hc]
        have HD := Lib.hid (hdc.symm.trans hd)
        clear hq hqe hb hbit hd hc hdc
        go_wp2
        go_round
        case rel => exact ⟨k + 1, by omega, by go_num, by rw [← HD.out]⟩
        case measure => simp [RowKit.intOf]; omega
    · obtain rfl : k = S := by omega
      obtain ⟨c, hc⟩ : ∃ c, c = nmTo σ x k := ⟨_, rfl⟩
      rw [← hc]
      have HC := Lib.hid hc
      clear hc
      go_wp2
      go_ret
      exact ⟨by first | rfl | (rw [← HC.out]; rfl) | (rw [HC.out]; rfl), rfl⟩
/-- The names behind the first swaps. -/
def swK (S : Nat) (ns : List Nat) : Nat → List Nat
  | 0 => List.range S
  | k + 1 => swapL (swK S ns k) (k % S) (mAt ns k % S)
theorem swK_name {S : Nat} (hS : 1 ≤ S) (ns : List Nat) : ∀ k, IsName S (swK S ns k)
  | 0 => IsName.start S
  | k + 1 => (swK_name hS ns k).swap (Nat.mod_lt _ hS) (Nat.mod_lt _ hS)
theorem ints_swap (σ : List Nat) (p q : Nat) : ((ints σ).set p ((mAt σ q : Nat) : Int)).set q ((mAt σ p : Nat) : Int) = ints (swapL σ p q) := by
  unfold swapL ints; rw [List.map_set, List.map_set]
theorem ints_getD {σ : List Nat} {p : Nat} (hp : p < σ.length) : (ints σ).getD p 0 = ((mAt σ p : Nat) : Int) := by
  unfold ints mAt
  rw [List.getD_eq_getElem?_getD, List.getElem?_map, List.getElem?_eq_getElem hp]; rfl
theorem appendO_run (w : World) (B : Nat) (xs : List Int) (x : Int) (v : Value) (hown : Owns B w v xs) (hB : B ≤ w.heap.size) (hl : xs.length ≤ 5000) (b : Nat) (hx : w.cell? ⟨b, 0, none⟩ = some (.int .i64 x)) (ty : TypeId) :
    ∃ v' w', (Builtin.append_ #[22, 22] ty #[v, .slice (some ⟨b, 0, none⟩) 1 1]).run Try.prog w = .ok v' w' ∧ Owns B w' v' (xs ++ [x]) ∧ Below B w w' := by
  obtain ⟨i0, hi0, hz0, hz1, hz2⟩ := info_parts Try.info3
  obtain ⟨v', w', hrun, r1, r2, _⟩ := run_append_own (P := Try.prog) w B 22 ty 3 i0 (.int .i64 0) 1 8 Try.underlying22 hi0 hz0 hz1 hz2 rfl (by decide) v _ _ hown ⟨b, 0, none⟩ 1 1 [.int .i64 x] rfl (fun j u hj => by
    match j, hj with
    | 0, hj => simp at hj; subst hj; rw [addr_add]; exact hx) (fun u hu => by simp at hu; subst hu; rfl) (by unfold maxLen; omega) (by omega) hB
  refine ⟨v', w', hrun, ?_, ?_⟩
  · unfold Owns; simpa using r1
  · exact (Below.refl B w).grown r2 (by omega) fun k hk => (hown.lt k hk).1
theorem step_appendO {ops : Array Oper} {o : Oper} {a : Act} {K : Act → World → Prop} {Q : Exit → Act → World → Prop} {E : Prop} (hgd : o.guard = none) (s u : Operand)
    (ho : o.op = .call { callee := .builtin .append, args := #[s, u], argTypes := #[22, 22] }) (v : Value) (hs : a.eval s = v) (w : World) (B : Nat) (xs : List Int) (x : Int) (hown : Owns B w v xs) (hB : B ≤ w.heap.size) (hl : xs.length ≤ 5000)
    (b : Nat) (hu : a.eval u = .slice (some ⟨b, 0, none⟩) 1 1) (hx : w.cell? ⟨b, 0, none⟩ = some (.int .i64 x)) (h : ∀ v' w', Owns B w' v' (xs ++ [x]) → Below B w w' → K (a.put o.dst v') w') :
    if Region.wanted o (yielded ops a.tmps) = true then Oper.wp Try.prog o a w K Q else E := by
  have hw : Region.wanted o (yielded ops a.tmps) = true := by simp [Region.wanted, hgd]
  rw [if_pos hw]
  obtain ⟨v', w', hrun, h1, h2⟩ := appendO_run w B xs x v hown hB hl b hx o.type
  unfold Oper.wp
  simp [execOp, ho, resolve, invoke, builtin, hs, hu, hrun, Result.andThen]
  exact h _ _ h1 h2
theorem row2_set {W : World} {b : Nat} {x y z : Value} {t : TypeId} {fr : Nat × Nat} (h : W.heap[b]? = some (.cells #[x, y, z] t fr)) (z' : Value) :
    (W.setCell ⟨b, 2, none⟩ z').heap[b]? = some (.cells #[x, y, z'] t fr) := by
  show (W.heap.modify b _)[b]? = _
  rw [Array.getElem?_modify, if_pos rfl, h]
  rfl
theorem Owns.below_set {B : Nat} {w : World} {v : Value} {xs : List Int} (h : Owns B w v xs) {b o : Nat} (hb : b < B) (u : Value) : Owns B (w.setCell ⟨b, o, none⟩ u) v xs := by
  obtain ⟨h1, h2 | ⟨g, cap, cur, e, hg, hh, r⟩⟩ := h
  · exact ⟨h1, .inl h2⟩
  · refine ⟨h1, .inr ⟨g, cap, cur, e, hg, ?_, r⟩⟩
    rw [← hh]
    show (w.heap.modify b _)[g]? = _
    rw [Array.getElem?_modify, if_neg (by omega)]
end Go.Proofs.Ytlgdnbpboonhdaa
