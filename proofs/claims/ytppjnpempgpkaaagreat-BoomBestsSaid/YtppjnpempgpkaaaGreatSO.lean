/- What Works asks of the specs at its two ponds, reckoned by the kernel. The laws' own helpers: Ints, of, way, Pond, Chain, great, by their contracts. The reference: CheckWays of a pond that isn't valid; far. The names of the sides of ways: bounds; an append that says where the list lies. -/
import Derived.Test.YtppjnpempgpkaaaGreatR6
import Derived.Test.YtppjnpempgpkaaaGreatK8
import Derived.Test.YtppjnpempgpkaaaGreatH7
import Derived.Test.YtppjnpempgpkaaaGreatH6
import Derived.Test.YtppjnpempgpkaaaGreatN3
import Derived.Test.YtppjnpempgpkaaaGreatK1
namespace Go.Proofs.YtppjnpempgpkaaaGreat
set_option linter.unusedVariables false
def g43 : Grid := gridP 4 3 (by decide) (by decide)
set_option maxRecDepth 100000 in
theorem works_fewest : stk g43 (smallB g43 64 [5, 7] (memL [])) = 8 := by decide +kernel
set_option maxRecDepth 100000 in
theorem works_small : (List.range 12).filter (smallB g43 64 [5, 7] (memL [])) = [5, 7] := by decide +kernel
set_option maxRecDepth 100000 in
theorem works_large : (List.range 12).filter (largeB g43 64 [5, 7] (memL [])) = [5, 6, 7] := by decide +kernel
set_option maxRecDepth 100000 in
theorem works_kind : kindK (smallB g43 64 [5, 7] (memL []) 6) (largeB g43 64 [5, 7] (memL []) 6) = 1 := by decide +kernel
set_option maxRecDepth 100000 in
theorem works_ways : ((takeAll g43 64 (memL []) [5, 7] (flowF g43 64 [5, 7] (memL []))).2.map inI).length = 8 ∧ chkW g43 4 3 (natI [5, 7]) (natI []) ((takeAll g43 64 (memL []) [5, 7] (flowF g43 64 [5, 7] (memL []))).2.map inI) = 0 := by decide +kernel
set_option maxRecDepth 100000 in
theorem works_sticks : stk g43 (memL [4, 5]) = 6 ∧ encB [5] [6] [4, 5] = true ∧ encB [5] [6] [5, 6] = false := by decide +kernel
set_option maxRecDepth 100000 in
theorem works_chkW : chkW g43 4 3 (natI [5]) (natI [6]) [([5, 6], -1), ([5, 4], 2)] = 0 ∧ chkW g43 4 3 (natI [5]) (natI [6]) [([5, 6], -1), ([5, 6], -1)] = 11 := by decide +kernel
set_option maxRecDepth 100000 in
theorem works_most : mostB 10 8 8 = (2, 3) := by decide +kernel
set_option maxRecDepth 100000 in
theorem works_chain : chkC 0 0 "EEWW".toUTF8 = 19 ∧ chkC 1 1 "EENNWSWS".toUTF8 = 0 ∧ encl (sts (1, 1) (dirs "EENNWSWS".toUTF8)) = [9, 10, 18] ∧ lftB (sts (1, 1) (dirs "EENNWSWS".toUTF8)) = true := by decide +kernel
end Go.Proofs.YtppjnpempgpkaaaGreat
namespace Go.Proofs.YtppjnpempgpkaaaGreat
open Go.RowKit Go.Shelf
set_option linter.unusedVariables false
set_option linter.unusedSimpArgs false
attribute [local go_sem] Oper.semAt_some

set_option maxRecDepth 100000 in
set_option maxHeartbeats 1000000 in
theorem ints_c (u v : Value) (xs ys : List Int) (w : World) (hu : Reads w u xs) (hv : Reads w v ys) :
    Calls Tryz.prog 19 #[u, v] w fun e w' => e = .returned (.bool (decide (xs = ys))) ∧ Ext w w' := by
  obtain ⟨hul, ua, uc, rfl⟩ := hu.shape
  obtain ⟨hvl, va, vc, rfl⟩ := hv.shape
  have HU := Lib.hid hu; have HV := Lib.hid hv
  clear hu hv
  obtain ⟨r, hr⟩ : ∃ r, r = decide (xs = ys) := ⟨_, rfl⟩
  rw [← hr]
  have HR := Lib.hid hr
  clear hr
  have hu2 : xs.length ≤ 9223372036854775806 := by omega
  have hv2 : ys.length ≤ 9223372036854775806 := by omega
  by_cases hl : xs.length = ys.length
  · rw [← hl] at HV hv2 ⊢
    obtain ⟨n, hn⟩ : ∃ n, n = xs.length := ⟨_, rfl⟩
    have HL := Lib.hid hl; have HN := Lib.hid hn
    rw [← hn] at HV HU hu2 ⊢
    clear hl hn hul hvl hv2
    go_enter Tryz.func19, Tryz.ntmps19
    go_wp2
    go_loopw [5] (fun i wr => ∃ k : Nat, k ≤ n ∧ i = .int .i64 (k : Int) ∧ Hid (xs.take k = ys.take k) ∧ Hid (Ext w wr)) (fun i wr => n - (intOf i).toNat)
    case atStart => exact ⟨0, Nat.zero_le _, rfl, (by first | exact Lib.hid rfl | exact Lib.hid trivial), Lib.hid (Ext.refl _)⟩
    case round =>
      obtain ⟨k, hk, rfl, hI, hE⟩ := hrel
      by_cases hlt : k < n
      · obtain ⟨b, off, x, rfl, hx, hcx⟩ := (HU.out.ext hE.out).at (show k < xs.length by have := HN.out; omega)
        obtain ⟨b', off', y, rfl, hy, hcy⟩ := (HV.out.ext hE.out).at (show k < ys.length by have := HN.out; have := HL.out; omega)
        have hka : (0 : Int) ≤ (k : Int) := by omega
        have hkb : (k : Int) < (n : Int) := by omega
        have hkt : (k : Int).toNat = k := by omega
        by_cases he : x = y
        · have e1 : (x != y) = false := by simp [he]
          have e2 : decide (x = y) = true := decide_eq_true he
          have HI2 := Lib.hid (show xs.take (k + 1) = ys.take (k + 1) from by rw [take_snoc hx, take_snoc hy, hI.out, he])
          clear he hx hy
          go_upto_region 6 with fail
          go_quiet (fail)
          clear hcx hcy
          go_wp2
          go_roundw
          case rel => exact ⟨k + 1, by omega, by go_num, HI2, Lib.hid (hE.out.drewN _)⟩
          case measure => simp [intOf]; omega
        · have e1 : (x != y) = true := by simp [he]
          have e2 : decide (x = y) = false := decide_eq_false he
          have HVV := Lib.hid (show r = false from by
            rw [HR.out]
            refine decide_eq_false fun h => he ?_
            rw [h, hy] at hx
            exact (Option.some.inj hx).symm)
          clear he hx hy
          go_upto_region 6 with fail
          go_quiet (fail)
          go_wp2
          go_ret
          exact ⟨ret_bool HVV.out.symm, hE.out.drewN _⟩
      · obtain rfl : k = n := by omega
        have HVV := Lib.hid (show r = true from by
          rw [HR.out]
          refine decide_eq_true ?_
          have := hI.out
          rw [HN.out, List.take_of_length_le (Nat.le_refl _), HL.out, List.take_of_length_le (Nat.le_refl _)] at this
          exact this)
        go_wp2
        go_ret
        exact ⟨ret_bool HVV.out.symm, hE.out⟩
  · have HVV := Lib.hid (show r = false from by rw [HR.out]; exact decide_eq_false fun h => hl (by rw [h]))
    have hl2 : ¬ (xs.length : Int) = (ys.length : Int) := by omega
    clear HR
    go_enter Tryz.func19, Tryz.ntmps19
    go_wp2
    go_ret
    exact ⟨ret_bool HVV.out.symm, Ext.refl _⟩
theorem of_c (v : Value) (w : World) : Calls Tryz.prog 37 #[v] w fun e w' => e = .returned v ∧ w' = w := by
  go_enter Tryz.func37, Tryz.ntmps37
  go_wp2
  go_ret
  exact ⟨rfl, rfl⟩
set_option maxRecDepth 100000 in
theorem way_c (o : Int) (a : Option Addr) (n c : Nat) (w : World) : Calls Tryz.prog 38 #[.int .i64 o, .slice a n c] w fun e w' => e = .returned (.agg #[.slice a n c, .int .i64 o]) ∧ Ext w w' := by
  have E0 := Lib.hid ((Ext.refl w).alloc (.cells #[.slice a n c, .int .i64 o] 60))
  have B0 := Lib.hid (heap_alloc_new w (.cells #[.slice a n c, .int .i64 o] 60))
  obtain ⟨c0, c1⟩ := cells2 B0.out
  go_enter Tryz.func38, Tryz.ntmps38
  go_wp2
  refine bodyPost_ret (v := .agg #[.slice a n c, .int .i64 o]) ?_ rfl ⟨rfl, E0.out⟩
  exact results_cell_row (P := Tryz.prog) (fn := Tryz.f38) Tryz.results38 _ _ w.heap.size _ _ _ _ rfl B0.out Tryz.underlying60 rfl (by kernel_rfl)
set_option maxRecDepth 100000 in
theorem pond_c (W H : Int) (nw cw nk ck : Nat) (aw ak : Option Addr) (w : World) : Calls Tryz.prog 33 #[.int .i64 W, .int .i64 H, .slice aw nw cw, .slice ak nk ck] w fun e w' => e = .returned (.agg #[.int .i64 W, .int .i64 H, .slice aw nw cw, .slice ak nk ck]) ∧ Ext w w' := by
  have E0 := Lib.hid ((Ext.refl w).alloc (.cells #[.int .i64 W, .int .i64 H, .slice aw nw cw, .slice ak nk ck] 24))
  have B0 := Lib.hid (heap_alloc_new w (.cells #[.int .i64 W, .int .i64 H, .slice aw nw cw, .slice ak nk ck] 24))
  go_enter Tryz.func33, Tryz.ntmps33
  go_wp2
  refine bodyPost_ret (v := .agg #[.int .i64 W, .int .i64 H, .slice aw nw cw, .slice ak nk ck]) ?_ rfl ⟨rfl, E0.out⟩
  exact results_cell_row (P := Tryz.prog) (fn := Tryz.f33) Tryz.results33 _ _ w.heap.size _ _ _ _ rfl B0.out Tryz.underlying24 rfl (by kernel_rfl)
set_option maxRecDepth 100000 in
theorem chain_c (X Y : Int) (s : ByteArray) (w : World) : Calls Tryz.prog 39 #[.int .i64 X, .int .i64 Y, .string s] w fun e w' => e = .returned (.agg #[.int .i64 X, .int .i64 Y, .string s]) ∧ Ext w w' := by
  have E0 := Lib.hid ((Ext.refl w).alloc (.cells #[.int .i64 X, .int .i64 Y, .string s] 63))
  have B0 := Lib.hid (heap_alloc_new w (.cells #[.int .i64 X, .int .i64 Y, .string s] 63))
  go_enter Tryz.func39, Tryz.ntmps39
  go_wp2
  refine bodyPost_ret (v := .agg #[.int .i64 X, .int .i64 Y, .string s]) ?_ rfl ⟨rfl, E0.out⟩
  exact results_cell_row (P := Tryz.prog) (fn := Tryz.f39) Tryz.results39 _ _ w.heap.size _ _ _ _ rfl B0.out Tryz.underlying63 rfl (by kernel_rfl)
theorem great_c (W H : Int) (nw cw nk ck : Nat) (aw ak : Option Addr) (w : World) : Calls Tryz.prog 8 #[.agg #[.int .i64 W, .int .i64 H, .slice aw nw cw, .slice ak nk ck]] w fun e w' => e = .returned (.bool (decide (70 < nw) || decide (70 < nk))) ∧ Ext w w' := by
  have E0 := Lib.hid ((Ext.refl w).alloc (.cells #[.int .i64 W, .int .i64 H, .slice aw nw cw, .slice ak nk ck] 24))
  obtain ⟨q1, hq1⟩ : ∃ q, decide (70 < nw) = q := ⟨_, rfl⟩
  obtain ⟨q2, hq2⟩ : ∃ q, decide (70 < nk) = q := ⟨_, rfl⟩
  rw [hq1, hq2]
  have hq3 : decide ((70 : Int) < (nw : Int)) = q1 := by rw [← hq1]; exact decide_eq_decide.2 (by omega)
  have hq4 : decide ((70 : Int) < (nk : Int)) = q2 := by rw [← hq2]; exact decide_eq_decide.2 (by omega)
  go_enter Tryz.func8, Tryz.ntmps8
  cases q1 <;> cases q2 <;> (go_wp2; go_ret; exact ⟨rfl, E0.out⟩)
end Go.Proofs.YtppjnpempgpkaaaGreat
namespace Go.Proofs.YtppjnpempgpkaaaGreat
open Go.RowKit Go.Shelf
set_option linter.unusedVariables false
set_option linter.unusedSimpArgs false
attribute [local go_sem] Oper.semAt_some

set_option maxRecDepth 100000 in
set_option maxHeartbeats 1000000 in
theorem rcheckWays_no (W H : Int) (nw cw nk ck : Nat) (aw ak : Option Addr) (wl kl : List Int) (w : World) (hw : Reads w (.slice aw nw cw) wl) (hk : Reads w (.slice ak nk ck) kl) (hne : chkP W H wl kl ≠ 0) (v : Value) :
    Calls Tryz.prog 25 #[.agg #[.int .i64 W, .int .i64 H, .slice aw nw cw, .slice ak nk ck], v] w fun e w' => e = .returned (.tuple #[.int .i64 0, .int .i64 (chkP W H wl kl)]) ∧ Ext w w' := by
  have HCP := Lib.hid (fun (X : World) (h : Ext w X) => rcheckPond_c W H nw cw nk ck aw ak wl kl X (hw.ext h) (hk.ext h))
  have E0 := Lib.hid ((Ext.refl w).alloc (.cells #[.int .i64 W, .int .i64 H, .slice aw nw cw, .slice ak nk ck] 24))
  have B0 := Lib.hid (heap_alloc_new w (.cells #[.int .i64 W, .int .i64 H, .slice aw nw cw, .slice ak nk ck] 24))
  obtain ⟨x, hx⟩ : ∃ x, chkP W H wl kl = x := ⟨_, rfl⟩
  rw [hx] at hne HCP ⊢
  have hq : (x != 0) = true := by simp [hne]
  clear hx hw hk
  obtain ⟨c0, c1, c2, c3⟩ := cells4 B0.out
  go_enter Tryz.func25, Tryz.ntmps25
  go_wp2_with (first | (go_at_call 36; have hgg := HE1.out; clear hgg; refine Calls.mono (HCP.out _ (HE1.out)) ?_; intro e Y2 h1; obtain ⟨h1, hE⟩ := h1; subst h1; have HE2 := Lib.hid (HE1.out.trans hE); have B2 := Lib.hid (block_ext hE B1.out); clear hE; obtain ⟨d0, d1, d2, d3⟩ := cells4 B2.out) | (go_at_call 36; refine Calls.mono (HCP.out _ (E0.out)) ?_; intro e Y1 h1; obtain ⟨h1, hE⟩ := h1; subst h1; have HE1 := Lib.hid (E0.out.trans hE); have B1 := Lib.hid (block_ext hE B0.out); clear hE; obtain ⟨d0, d1, d2, d3⟩ := cells4 B1.out) | fail)
  refine bodyPost_ret (by first | (simp [results, Tryz.results25, go_sem]; done) | (simp [results, Tryz.results25, go_sem]; rfl)) rfl ?_
  exact ⟨rfl, HE2.out⟩
/-- Too many ways, or one that is too long, for a statement. -/
def farB (ls : List WI) : Bool := (decide (40 < ls.length) && decide (ls.length ≤ 256) || decide (260 < ls.length)) || ls.any fun x => decide (70 < x.1.length)
end Go.Proofs.YtppjnpempgpkaaaGreat
namespace Go.Proofs.YtppjnpempgpkaaaGreat
open Go.RowKit Go.Shelf
set_option linter.unusedVariables false
set_option linter.unusedSimpArgs false
attribute [local go_sem] Oper.semAt_some

theorem edge_out {W H : Nat} {wl kl : List Int} {x : WI} (h : WOk W H x) (h3 : wayB W H wl kl x = true) : ∀ k, (toW x).2 = some k → bhP W H (lastN (toW x).1, k) = none := by
  intro k hk
  unfold wayB at h3
  rw [Bool.and_eq_true, Bool.and_eq_true] at h3
  have h4 := h3.2.2
  have e2 : x.2 = (k : Int) := by rw [h.e2, hk]; rfl
  unfold endB at h4
  rw [if_neg (by rw [e2]; omega), decide_eq_true_iff, h.e1, lastI_nat h.ne, e2, Int.toNat_natCast, Int.toNat_natCast] at h4
  exact nx_none h4
theorem cn_lt {G : Grid} {s : Sd} (h : okS G s) : cn G s < 4 * G.n := by
  obtain ⟨h1, h2⟩ := h
  unfold cn
  split
  · have := Nat.min_le_left (4 * s.1 + s.2) (4 * (by assumption) + opp s.2); omega
  · omega
theorem sidL_lt {W H : Nat} (hW : W ≤ 8) (hH : H ≤ 8) {x : WI} (h : WOk W H x) (ho : ∀ k, (toW x).2 = some k → bhP W H (lastN (toW x).1, k) = none) : ∀ y ∈ sidL W H x, ∃ c : Nat, c < 256 ∧ y = (c : Int) := by
  intro y hy
  have h64 : W * H ≤ 64 := Nat.mul_le_mul hW hH
  rw [sidL_is hW hH h ho] at hy
  unfold natI at hy
  obtain ⟨c, hc, rfl⟩ := List.mem_map.1 hy
  obtain ⟨s, hs, rfl⟩ := List.mem_map.1 hc
  have h1 := usesW_small h.edge hs
  have := cn_lt (G := gridP W H hW hH) (s := s) ⟨h.cells _ h1.1, h1.2⟩
  have h2 : (gridP W H hW hH).n = W * H := rfl
  exact ⟨_, by omega, rfl⟩
theorem names_len {l : List Int} (hn : l.Nodup) (hb : ∀ y ∈ l, ∃ c : Nat, c < 256 ∧ y = (c : Int)) : l.length ≤ 256 := by
  have e : l = natI (l.map Int.toNat) := by
    unfold natI
    rw [List.map_map]
    refine (List.map_id _).symm.trans (List.map_congr_left fun y hy => ?_)
    obtain ⟨c, -, rfl⟩ := hb y hy
    simp
  rw [e, natI_nodup] at hn
  have := nodup_lt 256 hn (fun x hx => by
    obtain ⟨y, hy, rfl⟩ := List.mem_map.1 hx
    obtain ⟨c, hc, rfl⟩ := hb y hy
    simpa using hc)
  rw [List.length_map] at this
  exact this
theorem flat_take_sub {α β : Type} (f : α → List β) (ls : List α) (k : Nat) : ((ls.take k).flatMap f).Sublist (ls.flatMap f) := by
  have h : ls.flatMap f = (ls.take k).flatMap f ++ (ls.drop k).flatMap f := by rw [← List.flatMap_append, List.take_append_drop]
  rw [h]
  exact List.sublist_append_left _ _
theorem sidL_len {W H : Nat} {x : WI} (h : x.1.length ≤ 64) : (sidL W H x).length ≤ 65 := by
  unfold sidL
  rw [List.length_append, stpL_len]
  split <;> simp <;> omega
theorem skip_gen {P : Program} {ops : Array Oper} {Q : Exit → Act → World → Prop} {S : World → Prop} {o : Oper} {rest : List Oper} {a : Act} {w : World} {ww : List Oper → Act → World → Prop} (hww : wpText P ops Q S = ww) (hw : Region.wanted o (yielded ops a.tmps) = false) (h : ww rest (a.put o.dst undef) w) : ww (o :: rest) a w := by
  subst hww; exact text_skip hw h
/-- The own block of a list behind an append: that of before, or a new one. -/
theorem appendI_run2 {X : World} {B : Nat} {v : Value} {l : List Int} (h : OwnI 3 B X v l) (hB : B ≤ X.heap.size) (hl : l.length ≤ 20000) (x : Int) (b : Nat) (h0 : X.cell? ⟨b, 0, none⟩ = some (.int .i64 x)) (ty : TypeId) :
    ∃ v' X', (Builtin.append_ #[22, 22] ty #[v, .slice (some ⟨b, 0, none⟩) 1 1]).run Tryz.prog X = .ok v' X' ∧ OwnI 3 B X' v' (l ++ [x]) ∧ X.grownBy X' v.ownBlock ∧ ∀ g, g < X.heap.size → v.ownBlock ≠ some g → v'.ownBlock ≠ some g := by
  obtain ⟨v', X', hrun, h1, h2⟩ := appendI_run h hB hl x b h0 ty
  refine ⟨v', X', hrun, h1, h2, fun g hg hne he => ?_⟩
  obtain ⟨i0, hi0, hz0, hz1, hz2⟩ := info_parts Tryz.info3
  have hnews : ∀ (j : Nat) (u : Value), [Value.int .i64 x][j]? = some u → X.cell? ((⟨b, 0, none⟩ : Addr).add j) = some u := fun j u hj => by
    match j, hj with
    | 0, hj => simp at hj; subst hj; rw [addr_add]; exact h0
    | j + 1, hj => simp at hj
  rcases h.2 with ⟨rfl, h00⟩ | ⟨gv, cap, cur, rfl, hbg, hgv, hnc, hcm, hcs, htake⟩
  · have hr := run_append_nil (P := Tryz.prog) X 22 ty 3 i0 _ Tryz.underlying22 hi0 hz0 ⟨b, 0, none⟩ 1 1 [.int .i64 x] (by rw [hz1]; rfl) hnews (by omega) (by omega) (by omega)
    rw [hr] at hrun
    cases hrun
    simp [Value.ownBlock] at he
    omega
  · by_cases hroom : l.length + 1 ≤ cap
    · have hr := run_append_room (P := Tryz.prog) X 22 ty 3 i0 Tryz.underlying22 hi0 gv l.length cap cur hgv ⟨b, 0, none⟩ 1 1 [.int .i64 x] (by rw [hz1]; rfl) hnews (fun u hu => by simp at hu; subst hu; rfl) hroom (by rw [hz1]; simp; omega)
      rw [hr] at hrun
      cases hrun
      exact hne he
    · have hr := run_append_grow (P := Tryz.prog) X 22 ty 3 i0 _ Tryz.underlying22 hi0 hz0 ⟨gv, 0, none⟩ l.length cap _ (by rw [hz1, Nat.mul_one, List.length_map]) (World.ownsRow.cells h (g := gv) rfl) ⟨b, 0, none⟩ 1 1 [.int .i64 x] (by rw [hz1]; rfl) hnews (by omega) (by omega) (growslice_fits (by omega) (by rw [hz2]; omega))
      rw [hr] at hrun
      cases hrun
      simp [Value.ownBlock] at he
      omega
end Go.Proofs.YtppjnpempgpkaaaGreat
