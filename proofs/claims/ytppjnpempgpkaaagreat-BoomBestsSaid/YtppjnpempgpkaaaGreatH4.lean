/- sticks of a raft, by its contract. Lists of ways as arguments; every over ways; isLong, hasCells, by their contracts. -/
import Derived.Test.YtppjnpempgpkaaaGreatH2
import Derived.Test.YtppjnpempgpkaaaGreatF5
import Derived.Test.YtppjnpempgpkaaaGreatN3
namespace Go.Proofs.YtppjnpempgpkaaaGreat
open Go.RowKit Go.Shelf
set_option linter.unusedVariables false
set_option linter.unusedSimpArgs false
attribute [local go_sem] Oper.semAt_some
def FrSt (A0 : Array Value) (b0 : Nat) (u : Value) (n i : Nat) (ds : List Deferred) (A : Act) : Prop := ∃ f : Nat → Value, A = { tmps := #[.agg A0, .pointer (some ⟨b0, 0, none⟩), f 2, .pointer (some ⟨b0 + 1, 0, none⟩), f 4, f 5, f 6, f 7, f 8, u, .int .i64 (n : Int), .int .i64 (i : Int), f 12, f 13, f 14, f 15, f 16, f 17, f 18, f 19, f 20, f 21, f 22, f 23, f 24, f 25, f 26, f 27, f 28], defers := ds }
set_option maxRecDepth 100000 in
theorem FrSt.mk {A0 : Array Value} {b0 : Nat} {u : Value} {n i : Nat} {ds : List Deferred} {x2 x4 x5 x6 x7 x8 x12 x13 x14 x15 x16 x17 x18 x19 x20 x21 x22 x23 x24 x25 x26 x27 x28 : Value} : FrSt A0 b0 u n i ds { tmps := #[.agg A0, .pointer (some ⟨b0, 0, none⟩), x2, .pointer (some ⟨b0 + 1, 0, none⟩), x4, x5, x6, x7, x8, u, .int .i64 (n : Int), .int .i64 (i : Int), x12, x13, x14, x15, x16, x17, x18, x19, x20, x21, x22, x23, x24, x25, x26, x27, x28], defers := ds } := ⟨fun j => (#[undef, undef, x2, undef, x4, x5, x6, x7, x8, undef, undef, undef, x12, x13, x14, x15, x16, x17, x18, x19, x20, x21, x22, x23, x24, x25, x26, x27, x28] : Array Value).getD j undef, rfl⟩

/-- How many of a cell's first sides a stick lies on. -/
def out4 (rd : List Bool) (W H c k : Nat) : Nat := ([0, 1, 2, 3].take k).countP fun j => !hld rd (nx W H c j)
theorem out4_succ {rd : List Bool} {W H c k : Nat} (hk : k < 4) : out4 rd W H c (k + 1) = out4 rd W H c k + (if hld rd (nx W H c k) = true then 0 else 1) := by
  unfold out4
  rw [take_snoc (at_four hk), List.countP_append]
  by_cases h : hld rd (nx W H c k) = true <;> simp [h]
theorem out4_le (rd : List Bool) (W H c k : Nat) : out4 rd W H c k ≤ 4 := Nat.le_trans List.countP_le_length (by rw [List.length_take]; simp; omega)
def outL (rd : List Bool) (W H : Nat) (L : List Nat) : Nat := (L.map fun c => out4 rd W H c 4).sum
theorem outL_snoc (rd : List Bool) (W H : Nat) (L : List Nat) (c : Nat) : outL rd W H (L ++ [c]) = outL rd W H L + out4 rd W H c 4 := by unfold outL; simp
theorem outL_le (rd : List Bool) (W H : Nat) : ∀ L : List Nat, outL rd W H L ≤ 4 * L.length
  | [] => by simp [outL]
  | c :: L => by
    have := outL_le rd W H L
    have := out4_le rd W H c 4
    unfold outL at *
    rw [List.map_cons, List.sum_cons, List.length_cons]
    omega
theorem outL_stk {G : Grid} {W H : Nat} (hGn : G.n = W * H) (hGb : G.bh = bhP W H) (rd : List Bool) : outL rd W H (cellsR (W * H) rd) = stk G (isR rd) := by
  unfold stk allS cellsR
  rw [hGn]
  induction W * H with
  | zero => rfl
  | succ n ih =>
    rw [List.range_succ, List.filter_append, List.flatMap_append, List.countP_append, ← ih]
    have hc : (sidesOf n).countP (lv G (isR rd)) = if isR rd n = true then out4 rd W H n 4 else 0 := by
      unfold sidesOf lv out4
      rw [hGb]
      simp only [List.countP_cons, List.countP_nil, hld_nx, List.take_succ_cons, List.take_zero]
      cases isR rd n <;> simp
    show outL rd W H _ = _
    cases hn : isR rd n with
    | false => simp [hn, hc, outL]
    | true => simp [hn, hc, outL]
theorem wpListIn_load_row {F : Fence} {n : Nat} {ops : Array Oper} {rest : List Oper} {o : Oper} {a : Act} {w : World} {Q : Exit → Act → World → Prop} (hfn : ∀ f, F.fn f) (hgd : o.guard = none) (ty : TypeId) (x : Operand) (ho : o.op = .load ty x)
    (g : Nat) (hx : a.eval x = .pointer (some ⟨g, 0, none⟩)) (t : TypeId) (cs : Array Value) (fr : Nat × Nat) (d : TypeDesc) (hg : w.heap[g]? = some (.cells cs t fr))
    (hu : Tryz.prog.underlying ty = some d) (hd : d.isRow = true) (hi : (Tryz.prog.info? ty).map (·.size) = some cs.size)
    (h : wpListIn F n Tryz.prog ops Q rest (a.put o.dst (.agg cs)) w) : wpListIn F n Tryz.prog ops Q (o :: rest) a w := by
  refine wpListIn_plain hgd fun K hK => ?_
  unfold Oper.wpIn
  refine ⟨fun f _ => hfn f, ?_⟩
  rw [Oper.semAt_eq _ _ _ (fun c hc => by rw [ho] at hc; cases hc)]
  rw [exec_load_mid ty x ho g 0 hx cs.toList d (range_all hg) hu hd (by rw [hi]; simp)]
  have e : cs.toList.toArray = cs := by simp
  rw [e]
  exact hK _ _ h
theorem OwnI.keepT {e0 : TypeId} {B : Nat} {w w' : World} {v : Value} {xs : List Int} {rs : List Nat} {b e : Nat} (h : OwnI e0 B w v xs) (hk : KeepT rs b e w w') (hr : ∀ r ∈ rs, r < B) (he : e0 ≠ e) : OwnI e0 B w' v xs := by
  obtain ⟨h1, h2⟩ := h
  refine ⟨h1, h2.imp id ?_⟩
  rintro ⟨g, cap, cur, rfl, hgb, hh, r⟩
  exact ⟨g, cap, cur, rfl, hgb, hk.cells (fun hm => by have := hr g hm; omega) hh he, r⟩
set_option maxRecDepth 100000 in
set_option maxHeartbeats 1000000 in
theorem sticks_c (W H nw cw nk ck : Nat) (aw ak : Option Addr) {A : Array Value} {rd : List Bool} (hA : IsRaft A W H (.slice aw nw cw) (.slice ak nk ck) rd) (hW : 1 ≤ W ∧ W ≤ 8) (hH : 1 ≤ H ∧ H ≤ 8) (w : World) :
    Calls Tryz.prog 47 #[.agg A] w fun e w' => e = .returned (.int .i64 (outL rd W H (cellsR (W * H) rd) : Int)) ∧ Ext w w' := by
  have hn64 : W * H ≤ 64 := Nat.mul_le_mul hW.2 hH.2
  obtain ⟨L, hL⟩ : ∃ L, L = cellsR (W * H) rd := ⟨_, rfl⟩
  have hLn : ∀ c ∈ L, c < W * H := fun c hc => by rw [hL] at hc; exact List.mem_range.1 (List.mem_filter.1 hc).1
  have hLl : L.length ≤ 64 := by rw [hL]; exact Nat.le_trans (List.length_filter_le _ _) (by simp; omega)
  have HCE := Lib.hid (fun X => cells_c W H nw cw nk ck aw ak hA hW hH X)
  rw [← hL] at HCE ⊢
  clear hL
  obtain ⟨w1, hw1⟩ : ∃ w1, w1 = (w.alloc (.cells A 78)).alloc (.cells #[.int .i64 0] 3) := ⟨_, rfl⟩
  have hE1 : Ext w w1 := by rw [hw1]; exact ((Ext.refl w).alloc _).alloc _
  have B0 := Lib.hid (show w1.heap[w.heap.size]? = some (.cells A 78 (0, 0)) from by rw [hw1]; exact block_ext ((Ext.refl _).alloc _) (heap_alloc_new w _))
  have B1 := Lib.hid (show w1.heap[w.heap.size + 1]? = some (.cells #[.int .i64 ((0 : Nat) : Int)] 3 (0, 0)) from by rw [hw1]; exact heap_alloc_at (w.alloc _) _ (by simp))
  have hz1 : w1.heap.size = w.heap.size + 2 := by rw [hw1]; simp
  have HE1 := Lib.hid hE1; have HW1 := Lib.hid hw1; have HZ1 := Lib.hid hz1
  have HI := Lib.hid hA.info
  have HH := Lib.hid hA.head
  have HHO := Lib.hid (fun (c k : Nat) (h1 : c < W * H) (h2 : k < 4) (X : World) => holds_c hA (nx W H c k) (by
    rcases nx_bound hW.2 hH.2 h1 h2 with h | ⟨d, h, -, h3⟩
    · rw [h]; omega
    · rw [h]; omega) X)
  have HNC := Lib.hid (fun (c : Nat) X => neighbours_c W H nw cw nk ck aw ak c X)
  clear hE1 hw1 hz1
  refine (callsIn_wide (n := 12)).1 ?_
  refine callsIn_of_wp_marks Tryz.func47 rfl trivial ?_ rfl
  simp only [Tryz.ntmps47, List.size_toArray, List.length_cons, List.length_nil, Nat.reduceAdd, Nat.reduceSub, Array.replicate_succ, Array.replicate_zero, List.push_toArray, List.append_toArray, List.nil_append, List.cons_append]
  refine wpIn_wide.2 ?_
  go_upto_region 2 with fail
  rw [← HW1.out]
  go_wp2_with (first | (refine wpList_load_row rfl 78 _ rfl _ rfl _ _ _ _ B0.out Tryz.underlying78 rfl HI.out ?_) | (go_at_call 49; refine Calls.mono (HCE.out _) ?_; intro e Y5 h1; obtain ⟨u, h1, ho, hE⟩ := h1; subst h1; obtain ⟨au, capu, hu, hcu⟩ := ho.shape; subst hu; rw [natI_len] at ho hcu ⊢; have HO := Lib.hid ho; have HEY := Lib.hid hE; clear ho hE) | fail)
  have HO5 := Lib.hid (show OwnI 3 (w.heap.size + 2) Y5 (.slice au L.length capu) (natI L) from by rw [← HZ1.out]; exact HO.out)
  have B05 := Lib.hid (block_ext HEY.out B0.out); have B15 := Lib.hid (block_ext HEY.out B1.out); have HE5 := Lib.hid (HE1.out.trans HEY.out); have HZY := Lib.hid (show w.heap.size + 2 ≤ Y5.heap.size from by rw [← HZ1.out]; exact HEY.out.size)
  clear B0 B1 HW1 HCE HO HEY HE1
  obtain ⟨N, hN⟩ : ∃ N, N = L.length := ⟨_, rfl⟩
  have HLN := Lib.hid hN
  have hN64 : N ≤ 64 := by omega
  have hN63 : N ≤ 9223372036854775807 := by omega
  rw [← hN] at HO5 hcu ⊢
  clear hN hLl
  refine wp_loop_ghost (fun M A' X => ∃ (i : Nat) (ds : List Deferred), FrSt A w.heap.size (.slice au N capu) N i ds A' ∧ M + i = N ∧ Hid (X.heap[w.heap.size + 1]? = some (.cells #[.int .i64 ((outL rd W H (L.take i) : Nat) : Int)] 3 (0, 0))) ∧ Hid (KeepT [w.heap.size + 1] w.heap.size 0 Y5 X) ∧ Hid (Marks (w.heap.size + 2) ds X)) N ?start ?round
  case start => exact ⟨0, [], FrSt.mk, rfl, B15, Lib.hid (KeepT.refl _ _ _ _), Lib.hid (Marks.nil _ _)⟩
  case round =>
    clear B15
    rintro M A' X ⟨i, ds, ⟨f, rfl⟩, hMN, hb1, hK, hmk⟩
    by_cases hlt : i < N
    · obtain ⟨b, off, x, hax, hx, hcx⟩ := ((HO5.out.keepT hK.out (by simp) (by decide)).reads (by rw [natI_len, ← HLN.out]; omega)).at (k := i) (by rw [natI_len, ← HLN.out]; exact hlt)
      subst hax
      obtain ⟨c, hc⟩ := get_some (xs := L) (k := i) (by rw [← HLN.out]; exact hlt)
      have hxc : x = (c : Int) := by
        have := natI_at hc
        rw [hx] at this
        exact Option.some.inj this
      subst hxc
      have hcn := hLn c (List.mem_of_getElem? hc)
      have HC := Lib.hid hc; have HCN := Lib.hid hcn
      have hka : (0 : Int) ≤ (i : Int) := by omega
      have hkb : (i : Int) < (N : Int) := by omega
      have B0X := Lib.hid (hK.out.cells (by simp) B05.out (by decide))
      obtain ⟨h0, h1, h2, h3⟩ := HH.out
      have p0 := cell_of_blk B0X.out h0
      have p1 := cell_of_blk B0X.out h1
      have p2 := cell_of_blk B0X.out h2
      have p3 := cell_of_blk B0X.out h3
      clear hc hx hcn h0 h1 h2 h3
      obtain ⟨M, rfl⟩ : ∃ M', M = M' + 1 := ⟨M - 1, by omega⟩
      go_wp2_with (first | (go_at_call 84; refine Calls.mono (HNC.out c _) ?_; intro e Y6 h1; obtain ⟨h1, hY6⟩ := h1; subst h1; have HY6 := Lib.hid hY6; clear hY6) | fail)
      have HE6 := Lib.hid (show Ext X Y6 from by rw [HY6.out]; exact ((Ext.refl _).alloc _).alloc _)
      have B6P := Lib.hid (show Y6.heap[X.heap.size]? = some (.cells #[.int .i64 (W : Int), .int .i64 (H : Int), .slice aw nw cw, .slice ak nk ck] 72 (0, 0)) from by rw [HY6.out]; exact block_ext ((Ext.refl _).alloc _) (heap_alloc_new X _))
      have B6C := Lib.hid (show Y6.heap[X.heap.size + 1]? = some (.cells #[.int .i64 (c : Int)] 3 (0, 0)) from by rw [HY6.out]; exact heap_alloc_at (X.alloc _) _ (by simp))
      have hz5 := HE5.out.size
      have hz6 := hK.out.size
      have hz7 := HZ1.out
      have hz8 : w.heap.size + 2 ≤ X.heap.size := Nat.le_trans HZY.out hK.out.size
      have hz9 : X.heap.size + 1 < Y6.heap.size := lt_of_blk B6C.out
      have B16 := Lib.hid (block_ext HE6.out hb1.out); have B06 := Lib.hid (block_ext HE6.out B0X.out)
      have HK6 := Lib.hid (hK.out.trans (KeepT.ext HE6.out))
      have HM6 := Lib.hid (hmk.out.keepT (rs := []) (b := 0) (e := 0) (KeepT.ext HE6.out) (by simp))
      have HSEQ := Lib.hid (neighbours_seq W H nw cw nk ck aw ak c 11 (X.heap.size + 1) X.heap.size [w.heap.size + 1] w.heap.size 0 Y6 (by omega) hW hH HCN.out B6C.out B6P.out (by simp; omega) (by simp; omega) (by simp; omega) (by decide))
      clear p0 p1 p2 p3 hcx hb1 hK hmk HY6 B0X
      refine (wpIn_wide (n := 12)).1 ?_
      refine wp_seqL1 (n := 12) (by omega) (gf := 112) (encs := encN W H c) (ps := #[19, 20]) (rs := [w.heap.size + 1]) (b := w.heap.size) (e := 0) rfl (enters_of Tryz.func112 (by kernel_rfl) rfl) HSEQ.out (Below.refl _ _) (fun _ => rfl) (by simp; omega)
        (fun k Y => Y.heap[w.heap.size + 1]? = some (.cells #[.int .i64 ((outL rd W H (L.take i) + out4 rd W H c k : Nat) : Int)] 3 (0, 0)) ∧ KeepT [w.heap.size + 1] w.heap.size 0 Y6 Y) (fun q k Y => False) ?hI ?hIx ?h0 ?af ?assign ?body ?done ?stop
      case hI =>
        rintro s A' B row ⟨h1, h2⟩ hg hr
        exact ⟨cells_turn h1 hg hr, ownFrom_keepT (β := Unit) (Nat.le_refl _) () A' B row h2 hg hr⟩
      case hIx => rintro q s A' B row h hg hr; exact h
      case h0 => exact ⟨B16.out, KeepT.refl _ _ _ _⟩
      case assign =>
        rintro l2 x A' K hK
        dsimp only [encN]
        gi_wp2
        exact hK
      case body =>
        rintro l2 k x Z hl2 hx ⟨hb, hK⟩
        obtain ⟨rfl, hk4⟩ := four_at hx
        clear hx
        have hB0 := hK.cells (by simp) B06.out (by decide)
        have hNb := out4_succ (rd := rd) (W := W) (H := H) (c := c) hk4
        have hle1 := outL_le rd W H (L.take i)
        have hle2 := out4_le rd W H c x
        have hle3 : (L.take i).length ≤ 64 := by rw [List.length_take, ← HLN.out]; omega
        have HX := Lib.hid (HHO.out c x HCN.out hk4)
        obtain ⟨hv, hhv⟩ : ∃ hv, hv = hld rd (nx W H c x) := ⟨_, rfl⟩
        obtain ⟨v, hvv⟩ : ∃ v, v = nx W H c x := ⟨_, rfl⟩
        rw [← hhv] at HX hNb
        rw [← hvv] at HX ⊢
        obtain ⟨m, hm⟩ : ∃ m, m = outL rd W H (L.take i) + out4 rd W H c x := ⟨_, rfl⟩
        rw [← hm] at hb
        have hm2 : m ≤ 260 := by omega
        have HM := Lib.hid hm
        have HNb := Lib.hid hNb
        have HB := Lib.hid hb; have HK := Lib.hid hK; have HB0 := Lib.hid hB0
        have HB0Y := Lib.hid (fun (V : World) (hV : Ext Z V) => cell_of_blk (block_ext hV hb) (o := 0) rfl)
        have HBFY := Lib.hid (fun (V : World) (hV : Ext Z V) => frozen_of_blk (block_ext hV hb) 0)
        clear hB0 hNb hle1 hle2 hle3 hb hK hm hhv hvv
        gi_wp2_with (first | (refine wpListIn_load_row (fun _ => trivial) rfl 78 _ rfl _ rfl _ _ _ _ HB0.out Tryz.underlying78 rfl HI.out ?_) | fail)
        refine ⟨trivial, (CallsIn.inRound l2 (callsIn_wide.2 (HX.out _))).mono ?_⟩
        rintro e V1 ⟨rfl, hV⟩
        have HV := Lib.hid hV; clear hV
        have q0 := HB0Y.out V1 HV.out
        have f0 := HBFY.out V1 HV.out
        clear HB0Y HBFY
        have hw1 : IntKind.i64.wrap ((m : Int) + 1) = ((m + 1 : Nat) : Int) := by rw [wrapi64 _ (by omega) (by omega)]; push_cast; rfl
        cases hv
        · gi_wp2
          have k1 : KeepT [w.heap.size + 1] w.heap.size 0 V1 (V1.setCell ⟨w.heap.size + 1, 0, none⟩ (.int .i64 ((m + 1 : Nat) : Int))) := KeepT.set _ (by simp) _
          have k2 : KeepT [w.heap.size + 1] w.heap.size 0 Z (V1.setCell ⟨w.heap.size + 1, 0, none⟩ (.int .i64 ((m + 1 : Nat) : Int))) := (KeepT.ext HV.out).trans k1
          refine ⟨k2, ?_, HK.out.trans k2⟩
          have h := HNb.out
          simp at h
          rw [h, ← Nat.add_assoc, ← HM.out]
          exact boxed_set (block_ext HV.out HB.out) _
        · gi_wp2
          refine ⟨KeepT.ext HV.out, ?_, HK.out.trans (KeepT.ext HV.out)⟩
          have h := HNb.out
          simp at h
          rw [h, ← HM.out]
          exact block_ext HV.out HB.out
      case done =>
        rintro D Z hD ⟨hb, hK⟩ hDW
        have h1 : (L.take (i + 1)) = L.take i ++ [c] := take_snoc HC.out
        have HB := Lib.hid (show Z.heap[w.heap.size + 1]? = some (.cells #[.int .i64 ((outL rd W H (L.take (i + 1)) : Nat) : Int)] 3 (0, 0)) from by rw [h1, outL_snoc]; exact hb)
        have HK := Lib.hid (HK6.out.trans hK)
        have HMK := Lib.hid (Marks.cons (HM6.out.keepT hK (by simp)) HM6.out hD (by omega) hDW)
        clear hb hK hDW h1
        have hw2 : IntKind.i64.wrap ((i : Int) + 1) = ((i + 1 : Nat) : Int) := by rw [wrapi64 _ (by omega) (by omega)]; push_cast; rfl
        go_wp2
        exact ⟨M, by omega, i + 1, _, FrSt.mk, by omega, HB, HK, HMK⟩
      case stop => rintro D q k X hD hk h hDW; exact h.elim
    · obtain rfl : i = N := by omega
      have hfin : L.take i = L := by rw [HLN.out]; exact List.take_length
      rw [hfin] at hb1
      have c1 := cell_of_blk hb1.out (o := 0) rfl
      have HEX := Lib.hid (show Ext w X from KeepT.below HE5.out hK.out (by simp) (Nat.le_refl _))
      have HMK := hmk
      clear hb1 hK hmk hfin
      go_wp2
      refine marks_leaveJ (base := w.heap.size + 2) (fun Y => Ext w Y) ?_ _ _ _ (by simp) HEX.out HMK.out (fun W' hj => ?_)
      · rintro Y D j1 hD hY
        exact ⟨j1.os, j1.tape, j1.output, by have := j1.size; simpa [World.putObj] using this, fun k hk => by rw [World.putObj_heap_other (by omega)]; exact j1.block k hk⟩
      · exact ⟨_, by first | (simp [results, Tryz.results47, go_sem]; done) | (simp [results, Tryz.results47, go_sem]; rfl), rfl, hj⟩
end Go.Proofs.YtppjnpempgpkaaaGreat
namespace Go.Proofs.YtppjnpempgpkaaaGreat
open Go.RowKit Go.Shelf
set_option linter.unusedVariables false
set_option linter.unusedSimpArgs false
attribute [local go_sem] Oper.semAt_some

/-- A slice of ways that reads as a list. -/
def ReadsW (w : World) (v : Value) (ls : List WI) : Prop :=
  ls.length ≤ 5000 ∧ ∃ a cap, v = .slice a ls.length cap ∧ (ls.length ≤ cap ∧ cap ≤ 9223372036854775807) ∧ (ls = [] ∨ ∃ b off, a = some ⟨b, off, none⟩ ∧ ∀ i x, ls[i]? = some x → ∃ s, w.cell? ⟨b, off + i * 2, none⟩ = some s ∧ Reads w s x.1 ∧ w.cell? ⟨b, off + i * 2 + 1, none⟩ = some (.int .i64 x.2))
theorem ReadsW.shape {w : World} {v : Value} {ls : List WI} (h : ReadsW w v ls) : ls.length ≤ 5000 ∧ ∃ a cap, v = .slice a ls.length cap := ⟨h.1, let ⟨a, cap, e, _⟩ := h.2; ⟨a, cap, e⟩⟩
theorem ReadsW.ext {w w' : World} {v : Value} {ls : List WI} (h : ReadsW w v ls) (hE : Ext w w') : ReadsW w' v ls := by
  obtain ⟨h1, a, cap, e, h2, h3⟩ := h
  refine ⟨h1, a, cap, e, h2, h3.imp id ?_⟩
  rintro ⟨b, off, e, hc⟩
  refine ⟨b, off, e, fun i x hx => ?_⟩
  obtain ⟨s, c0, c1, c2⟩ := hc i x hx
  exact ⟨s, cell_ext hE c0, c1.ext hE, cell_ext hE c2⟩
theorem ReadsW.at {w : World} {a : Option Addr} {n cap : Nat} {ls : List WI} (h : ReadsW w (.slice a n cap) ls) {i : Nat} (hi : i < ls.length) :
    ∃ b off x s, a = some ⟨b, off, none⟩ ∧ ls[i]? = some x ∧ w.cell? ⟨b, off + i * 2, none⟩ = some s ∧ Reads w s x.1 ∧ w.cell? ⟨b, off + i * 2 + 1, none⟩ = some (.int .i64 x.2) := by
  obtain ⟨h1, a', cap', e, h2, h3⟩ := h
  cases e
  rcases h3 with rfl | ⟨b, off, e, hc⟩
  · simp at hi
  · obtain ⟨x, hx⟩ := get_some hi
    obtain ⟨s, c0, c1, c2⟩ := hc i x hx
    exact ⟨b, off, x, s, e, hx, c0, c1, c2⟩
theorem ReadsW.len {w : World} {a : Option Addr} {n cap : Nat} {ls : List WI} (h : ReadsW w (.slice a n cap) ls) : n = ls.length := by
  obtain ⟨-, a', cap', e, -⟩ := h; cases e; rfl
theorem all_takeG {α : Type} {xs : List α} {p : α → Bool} {k : Nat} {x : α} (h : xs[k]? = some x) : (xs.take (k + 1)).all p = ((xs.take k).all p && p x) := by
  rw [take_snoc h]; simp

theorem every_ways (mf : Nat) (egm : ∀ args W, (callFunc mf args).run Tryz.prog W = .ok (.enter mf args) W) (p : WI → Bool) (v : Value) (ls : List WI) (w : World) (hr : ReadsW w v ls)
    (hm : ∀ (X : World) (x : WI) (s : Value), Ext w X → x ∈ ls → Reads X s x.1 → Calls Tryz.prog mf #[.agg #[s, .int .i64 x.2]] X fun e w' => e = .returned (.bool (p x)) ∧ Ext X w') :
    Calls Tryz.prog 57 #[v, .func (.func mf) #[] #[]] w fun e w' => e = .returned (.bool (ls.all p)) ∧ Ext w w' := by
  obtain ⟨hl, a, cap, rfl⟩ := hr.shape
  have HC := Lib.hid hr; have HM := Lib.hid hm; clear hr hm
  have hl2 : ls.length ≤ 9223372036854775807 := by omega
  go_enter Tryz.func57, Tryz.ntmps57
  go_wp2
  go_loopw [9] (fun i wr => ∃ k : Nat, k ≤ ls.length ∧ i = .int .i64 k ∧ Hid ((ls.take k).all p = true) ∧ Hid (Ext w wr)) (fun i wr => ls.length - (intOf i).toNat)
  case atStart => exact ⟨0, Nat.zero_le _, rfl, Lib.hid rfl, Lib.hid (Ext.refl w)⟩
  case round =>
    obtain ⟨k, hk, rfl, hall, hE⟩ := hrel
    by_cases hlt : k < ls.length
    · obtain ⟨b, off, x, s, rfl, hx, hc0, hrd, hc1⟩ := (HC.out.ext hE.out).at hlt
      obtain ⟨hs1, sa, sc, rfl⟩ := hrd.shape
      obtain ⟨lx, hlx⟩ : ∃ lx, lx = x.1.length := ⟨_, rfl⟩
      rw [← hlx] at hc0 hrd
      have HX := Lib.hid hx; have HRD := Lib.hid hrd
      have HH := Lib.hid (fun (X : World) (hX : Ext wr X) => HM.out X x _ (hE.out.trans hX) (List.mem_of_getElem? hx) (hrd.ext hX))
      clear hx hrd hlx
      obtain ⟨pv, hpv⟩ : ∃ pv, pv = p x := ⟨_, rfl⟩
      rw [← hpv] at HH
      have HPV := Lib.hid hpv; clear hpv
      have hka : (0 : Int) ≤ (k : Int) := by omega
      have hkb : (k : Int) < (ls.length : Int) := by omega
      cases pv
      · go_wp2_with fail
        refine (HH.out _ ((Ext.refl wr).alloc _)).mono ?_
        rintro e w1 ⟨rfl, hb⟩
        have E1 := Lib.hid ((hE.out.alloc _).trans hb); clear hb
        go_wp2
        go_ret
        refine ⟨ret_bool ?_, E1.out⟩
        symm
        rw [List.all_eq_false]
        exact ⟨x, List.mem_of_getElem? HX.out, by rw [← HPV.out]; simp⟩
      · go_wp2_with fail
        refine (HH.out _ ((Ext.refl wr).alloc _)).mono ?_
        rintro e w1 ⟨rfl, hb⟩
        have E1 := Lib.hid ((hE.out.alloc _).trans hb); clear hb
        go_wp2
        go_roundw
        case rel => exact ⟨k + 1, by omega, by go_num, Lib.hid (by rw [all_takeG HX.out, hall.out, ← HPV.out]; rfl), E1⟩
        case measure => simp [intOf]; omega
    · go_wp2
      go_ret
      have : k = ls.length := by omega
      subst this
      have h1 := hall.out
      rw [List.take_of_length_le (Nat.le_refl _)] at h1
      exact ⟨ret_bool h1.symm, hE.out⟩

theorem every_waysR (mf : Nat) (recv : Value) (egm : ∀ args W, (callFunc mf args).run Tryz.prog W = .ok (.enter mf args) W) (p : WI → Bool) (v : Value) (ls : List WI) (w : World) (hr : ReadsW w v ls)
    (hm : ∀ (X : World) (x : WI) (s : Value), Ext w X → x ∈ ls → Reads X s x.1 → Calls Tryz.prog mf #[recv, .agg #[s, .int .i64 x.2]] X fun e w' => e = .returned (.bool (p x)) ∧ Ext X w') :
    Calls Tryz.prog 57 #[v, .func (.func mf) #[recv] #[]] w fun e w' => e = .returned (.bool (ls.all p)) ∧ Ext w w' := by
  obtain ⟨hl, a, cap, rfl⟩ := hr.shape
  have HC := Lib.hid hr; have HM := Lib.hid hm; clear hr hm
  have hl2 : ls.length ≤ 9223372036854775807 := by omega
  go_enter Tryz.func57, Tryz.ntmps57
  go_wp2
  go_loopw [9] (fun i wr => ∃ k : Nat, k ≤ ls.length ∧ i = .int .i64 k ∧ Hid ((ls.take k).all p = true) ∧ Hid (Ext w wr)) (fun i wr => ls.length - (intOf i).toNat)
  case atStart => exact ⟨0, Nat.zero_le _, rfl, Lib.hid rfl, Lib.hid (Ext.refl w)⟩
  case round =>
    obtain ⟨k, hk, rfl, hall, hE⟩ := hrel
    by_cases hlt : k < ls.length
    · obtain ⟨b, off, x, s, rfl, hx, hc0, hrd, hc1⟩ := (HC.out.ext hE.out).at hlt
      obtain ⟨hs1, sa, sc, rfl⟩ := hrd.shape
      obtain ⟨lx, hlx⟩ : ∃ lx, lx = x.1.length := ⟨_, rfl⟩
      rw [← hlx] at hc0 hrd
      have HX := Lib.hid hx; have HRD := Lib.hid hrd
      have HH := Lib.hid (fun (X : World) (hX : Ext wr X) => HM.out X x _ (hE.out.trans hX) (List.mem_of_getElem? hx) (hrd.ext hX))
      clear hx hrd hlx
      obtain ⟨pv, hpv⟩ : ∃ pv, pv = p x := ⟨_, rfl⟩
      rw [← hpv] at HH
      have HPV := Lib.hid hpv; clear hpv
      have hka : (0 : Int) ≤ (k : Int) := by omega
      have hkb : (k : Int) < (ls.length : Int) := by omega
      cases pv
      · go_wp2_with fail
        refine (HH.out _ ((Ext.refl wr).alloc _)).mono ?_
        rintro e w1 ⟨rfl, hb⟩
        have E1 := Lib.hid ((hE.out.alloc _).trans hb); clear hb
        go_wp2
        go_ret
        refine ⟨ret_bool ?_, E1.out⟩
        symm
        rw [List.all_eq_false]
        exact ⟨x, List.mem_of_getElem? HX.out, by rw [← HPV.out]; simp⟩
      · go_wp2_with fail
        refine (HH.out _ ((Ext.refl wr).alloc _)).mono ?_
        rintro e w1 ⟨rfl, hb⟩
        have E1 := Lib.hid ((hE.out.alloc _).trans hb); clear hb
        go_wp2
        go_roundw
        case rel => exact ⟨k + 1, by omega, by go_num, Lib.hid (by rw [all_takeG HX.out, hall.out, ← HPV.out]; rfl), E1⟩
        case measure => simp [intOf]; omega
    · go_wp2
      go_ret
      have : k = ls.length := by omega
      subst this
      have h1 := hall.out
      rw [List.take_of_length_le (Nat.le_refl _)] at h1
      exact ⟨ret_bool h1.symm, hE.out⟩

theorem isLong_c (s : Value) (x : WI) (w : World) (hr : Reads w s x.1) : Calls Tryz.prog 58 #[.agg #[s, .int .i64 x.2]] w fun e w' => e = .returned (.bool (longB x)) ∧ Ext w w' := by
  obtain ⟨hl, a, cap, rfl⟩ := hr.shape
  clear hr
  obtain ⟨n, hn⟩ : ∃ n, n = x.1.length := ⟨_, rfl⟩
  have hd : longB x = inn 1 64 [(n : Int)] := by
    unfold longB inn
    rw [← hn]
    simp only [List.all_cons, List.all_nil, Bool.and_true]
    rw [show decide (1 ≤ n) = decide ((1 : Int) ≤ (n : Int)) from by rw [decide_eq_decide]; omega, show decide (n ≤ 64) = decide ((n : Int) ≤ 64) from by rw [decide_eq_decide]; omega]
  rw [hd, ← hn]
  clear hd
  have hn5 : n ≤ 5000 := by omega
  clear hn hl
  have E0 := Lib.hid ((Ext.refl w).alloc (.cells #[.slice a n cap, .int .i64 x.2] 60))
  go_enter Tryz.func58, Tryz.ntmps58
  go_wp2_with fail
  refine (within1 1 64 (n : Int) _ _ (by simp)).mono ?_
  rintro e w1 ⟨rfl, rfl⟩
  go_wp2
  go_ret
  exact ⟨rfl, E0.out.alloc _⟩
theorem hasCells_c (W H nw cw nk ck : Nat) (aw ak : Option Addr) (hW : 1 ≤ W ∧ W ≤ 8) (hH : 1 ≤ H ∧ H ≤ 8) (s : Value) (x : WI) (w : World) (hr : Reads w s x.1) : Calls Tryz.prog 59 #[.agg #[.int .i64 (W : Int), .int .i64 (H : Int), .slice aw nw cw, .slice ak nk ck], .agg #[s, .int .i64 x.2]] w fun e w' => e = .returned (.bool (cellsB (W * H) x)) ∧ Ext w w' := by
  obtain ⟨hl, a, cap, rfl⟩ := hr.shape
  obtain ⟨n, hn⟩ : ∃ n, n = x.1.length := ⟨_, rfl⟩
  rw [← hn] at hr ⊢
  have HA := Lib.hid (fun (X : World) (h : Ext w X) => areCells_c W H nw cw nk ck aw ak _ x.1 X hW.2 hH.2 (hr.ext h))
  have hd : cellsB (W * H) x = (inn 0 (((W * H : Nat) : Int) - 1) x.1 && inn (-1) 3 [x.2]) := by
    unfold cellsB
    congr 1
    simp [inn]
  rw [hd]
  obtain ⟨o, ho⟩ : ∃ o, o = x.2 := ⟨_, rfl⟩
  rw [← ho]
  generalize inn 0 (((W * H : Nat) : Int) - 1) x.1 = c at *
  obtain ⟨w1, hw1⟩ : ∃ w1, w1 = (w.alloc (.cells #[.int .i64 (W : Int), .int .i64 (H : Int), .slice aw nw cw, .slice ak nk ck] 72)).alloc (.cells #[.slice a n cap, .int .i64 o] 60) := ⟨_, rfl⟩
  have hE1 : Ext w w1 := by rw [hw1]; exact ((Ext.refl w).alloc _).alloc _
  have B1 := Lib.hid (show w1.heap[w.heap.size + 1]? = some (.cells #[.slice a n cap, .int .i64 o] 60 (0, 0)) from by rw [hw1]; exact heap_alloc_at (w.alloc _) _ (by simp))
  have B0 := Lib.hid (show w1.heap[w.heap.size]? = some (.cells #[.int .i64 (W : Int), .int .i64 (H : Int), .slice aw nw cw, .slice ak nk ck] 72 (0, 0)) from by rw [hw1]; exact block_ext ((Ext.refl _).alloc _) (heap_alloc_new w _))
  have HE1 := Lib.hid hE1; have HW1 := Lib.hid hw1
  clear hr hd ho hn hl hE1 hw1
  obtain ⟨p0, p1, p2, p3⟩ := cells4 B0.out
  obtain ⟨d0, d1⟩ := cells2 B1.out
  cases c
  all_goals
    go_enter Tryz.func59, Tryz.ntmps59
    go_upto_region 1 with fail
    rw [← HW1.out]
    go_wp2_with fail
    refine (HA.out _ HE1.out).mono ?_
    rintro e w2 ⟨rfl, hb⟩
    have E1 := Lib.hid (HE1.out.trans hb)
    have B2 := Lib.hid (block_ext hb B1.out); clear hb
    clear p0 p1 p2 p3 d0 d1
    obtain ⟨d0, d1⟩ := cells2 B2.out
  · go_wp2
    go_ret
    exact ⟨rfl, E1.out⟩
  · go_wp2_with fail
    refine (within1 (-1) 3 o _ _ (by simp)).mono ?_
    rintro e w3 ⟨rfl, rfl⟩
    go_wp2
    go_ret
    exact ⟨rfl, E1.out.alloc _⟩
end Go.Proofs.YtppjnpempgpkaaaGreat
