/- areApart, by its contract. -/
import Derived.Test.YtppjnpempgpkaaaGreatH5
import Derived.Test.YtppjnpempgpkaaaGreatF5
import Derived.Test.YtppjnpempgpkaaaGreatN3
namespace Go.Proofs.YtppjnpempgpkaaaGreat
open Go.RowKit Go.Shelf
set_option linter.unusedVariables false
set_option linter.unusedSimpArgs false
attribute [local go_sem] Oper.semAt_some
def FrAp (PVv v1 : Value) (b0 : Nat) (n i : Nat) (ds : List Deferred) (A : Act) : Prop := ∃ f : Nat → Value, A = { tmps := #[PVv, v1, .pointer (some ⟨b0, 0, none⟩), f 3, .pointer (some ⟨b0 + 1, 0, none⟩), .pointer (some ⟨b0 + 3, 0, none⟩), f 6, f 7, f 8, f 9, v1, .int .i64 (n : Int), .int .i64 (i : Int), f 13, f 14, f 15, f 16, f 17, f 18, f 19, f 20, f 21, f 22, f 23, f 24, f 25, f 26, f 27, f 28, f 29, f 30, f 31, f 32], defers := ds }
set_option maxRecDepth 100000 in
theorem FrAp.mk {PVv v1 : Value} {b0 : Nat} {n i : Nat} {ds : List Deferred} {x3 x6 x7 x8 x9 x13 x14 x15 x16 x17 x18 x19 x20 x21 x22 x23 x24 x25 x26 x27 x28 x29 x30 x31 x32 : Value} : FrAp PVv v1 b0 n i ds { tmps := #[PVv, v1, .pointer (some ⟨b0, 0, none⟩), x3, .pointer (some ⟨b0 + 1, 0, none⟩), .pointer (some ⟨b0 + 3, 0, none⟩), x6, x7, x8, x9, v1, .int .i64 (n : Int), .int .i64 (i : Int), x13, x14, x15, x16, x17, x18, x19, x20, x21, x22, x23, x24, x25, x26, x27, x28, x29, x30, x31, x32], defers := ds } := ⟨fun j => (#[undef, undef, undef, x3, undef, undef, x6, x7, x8, x9, undef, undef, undef, x13, x14, x15, x16, x17, x18, x19, x20, x21, x22, x23, x24, x25, x26, x27, x28, x29, x30, x31, x32] : Array Value).getD j undef, rfl⟩

/-- A way as the tests ahead let it through. -/
structure WOk (W H : Nat) (x : WI) : Prop where
  e1 : x.1 = natI (toW x).1
  e2 : x.2 = oI (toW x).2
  ne : (toW x).1 ≠ []
  cells : ∀ c ∈ (toW x).1, c < W * H
  nbs : Nbs W H (toW x).1
  edge : ∀ k, (toW x).2 = some k → k < 4
  len : (toW x).1.length ≤ 64
theorem Reads.cellsT {rs : List Nat} {b e : Nat} {w Y : World} {v : Value} {xs : List Int} (h : Reads w v xs) (hc : CellsT rs b e w Y) (hrs : ∀ r ∈ rs, w.heap.size ≤ r) (hb : w.heap.size ≤ b) : Reads Y v xs := by
  obtain ⟨h1, a, cap, e1, h2, h3⟩ := h
  refine ⟨h1, a, cap, e1, h2, h3.imp id ?_⟩
  rintro ⟨g, off, e2, h4⟩
  refine ⟨g, off, e2, fun i hi => ?_⟩
  have h5 := h4 i hi
  obtain ⟨ob, q1, q2⟩ := cells_of_cell h5
  dsimp only at q1
  cases ob with
  | cells cs t fr =>
    have hlt := lt_of_blk q1
    have h6 := hc g cs t fr q1 (fun hm => by have := hrs g hm; omega) (.inr (by omega))
    rw [← h5]
    simp only [World.cell?, h6, q1]
  | _ => cases q2
theorem tn_lk {G : Grid} {W H : Nat} (hW : W ≤ 8) (hH : H ≤ 8) (hGb : G.bh = bhP W H) {s : Sd} (h1 : s.1 < W * H) (h2 : s.2 < 4) (U : List Sd) : inF (U.map lkS) (lkT W H s) = tnB G U s := by
  unfold tnB lkT
  rw [hGb]
  rcases nx_bound hW hH h1 h2 with h | ⟨d, h, hb, -⟩
  · rw [h, show bhP W H s = none from nx_none h]
    dsimp only
    rw [← Bool.not_eq_true, inF_iff, List.mem_map]
    rintro ⟨t, -, e⟩
    have := congrArg Prod.fst e
    unfold lkS at this
    dsimp only at this
    omega
  · rw [h, show bhP W H s = some d from hb]
    dsimp only
    unfold memB inF
    rw [decide_eq_decide]
    exact inF_map (s := (d, opp s.2))
theorem mem_lk (U : List Sd) (s : Sd) : inF (U.map lkS) (lkS s) = memB U s := by unfold memB inF; exact decide_eq_decide.2 inF_map
theorem wpListIn_put_run {F : Fence} {n : Nat} {ops : Array Oper} {rest : List Oper} {o : Oper} {a : Act} {Q : Exit → Act → World → Prop} {w w' : World} (hfn : ∀ f, F.fn f) (hgd : o.guard = none) (ty : TypeId) (s x y : Operand) (ho : o.op = .mapUpdate ty s x y)
    {v sl u : Value} (hs : a.eval s = v) (hx : a.eval x = sl) (hy : a.eval y = u) (hrun : (Instr.mapUpdate ty v sl u).run Tryz.prog w = .ok () w') (h : wpListIn F n Tryz.prog ops Q rest (a.put o.dst undef) w') : wpListIn F n Tryz.prog ops Q (o :: rest) a w :=
  wpListIn_plain hgd fun K hK => wpIn_put_run hfn ty s x y ho hs hx hy hrun (hK _ _ h)
set_option maxRecDepth 100000 in
set_option maxHeartbeats 1000000 in
theorem areApart_c (W H nw cw nk ck : Nat) (aw ak : Option Addr) (hW : 1 ≤ W ∧ W ≤ 8) (hH : 1 ≤ H ∧ H ≤ 8) (G : Grid) (hGn : G.n = W * H) (hGb : G.bh = bhP W H) (ls : List WI) (v : Value) (w : World) (hr : ReadsW w v ls) (h256 : ls.length ≤ 256) (hok : ∀ x ∈ ls, WOk W H x) :
    Calls Tryz.prog 61 #[.agg #[.int .i64 (W : Int), .int .i64 (H : Int), .slice aw nw cw, .slice ak nk ck], v] w fun e w' => e = .returned (.bool (apB G ls)) ∧ Ext w w' := by
  have hn64 : W * H ≤ 64 := Nat.mul_le_mul hW.2 hH.2
  obtain ⟨hl5, av, capv, rfl⟩ := hr.shape
  obtain ⟨N, hN⟩ : ∃ N, N = ls.length := ⟨_, rfl⟩
  rw [← hN] at hr h256 ⊢
  have HN := Lib.hid hN
  have hmm := @run_makeMap Tryz.prog
  obtain ⟨w1, hw1⟩ : ∃ w1, w1 = (((w.alloc (.cells #[.int .i64 (W : Int), .int .i64 (H : Int), .slice aw nw cw, .slice ak nk ck] 72)).alloc (.cells #[.bool false] 4)).alloc (.map #[] 0)).alloc (.cells #[.map (some (w.heap.size + 2))] 113) := ⟨_, rfl⟩
  have hE1 : Ext w w1 := by rw [hw1]; exact ((((Ext.refl w).alloc _).alloc _).alloc _).alloc _
  have B0 := Lib.hid (show w1.heap[w.heap.size]? = some (.cells #[.int .i64 (W : Int), .int .i64 (H : Int), .slice aw nw cw, .slice ak nk ck] 72 (0, 0)) from by rw [hw1]; exact block_ext ((((Ext.refl _).alloc _).alloc _).alloc _) (heap_alloc_new w _))
  have B1 := Lib.hid (show w1.heap[w.heap.size + 1]? = some (.cells #[.bool false] 4 (0, 0)) from by rw [hw1]; exact block_ext (((Ext.refl _).alloc _).alloc _) (heap_alloc_at (w.alloc _) _ (by simp)))
  have M2 := Lib.hid (show SMap w1 (w.heap.size + 2) 0 (([] : List Sd).map lkS) from by
    have h := (SMap.made ((w.alloc (.cells #[.int .i64 (W : Int), .int .i64 (H : Int), .slice aw nw cw, .slice ak nk ck] 72)).alloc (.cells #[.bool false] 4))).ext ((Ext.refl _).alloc (.cells #[.map (some (w.heap.size + 2))] 113))
    rw [hw1]
    simpa using h)
  have B3 := Lib.hid (show w1.heap[w.heap.size + 3]? = some (.cells #[.map (some (w.heap.size + 2))] 113 (0, 0)) from by rw [hw1]; exact heap_alloc_at (((w.alloc _).alloc _).alloc _) _ (by simp))
  have HZ1 := Lib.hid (show w1.heap.size = w.heap.size + 4 from by rw [hw1]; simp)
  have HE1 := Lib.hid hE1; have HW1 := Lib.hid hw1; have HR := Lib.hid hr; have HOK := Lib.hid hok; have HGN := Lib.hid hGn; have HGB := Lib.hid hGb
  have HUC := Lib.hid (fun a nn cap o X => uses_c W H nw cw nk ck aw ak a nn cap o X)
  have HTUR := Lib.hid (fun (s : Sd) (h1 : s.1 < W * H) (h2 : s.2 < 4) (Y : World) => turned_c W H nw cw nk ck aw ak s.1 s.2 Y hW hH h1 h2)
  have hN63 : N ≤ 9223372036854775807 := by omega
  clear hE1 hw1 hr hok hGn hGb hN hl5
  refine (callsIn_wide (n := 12)).1 ?_
  refine callsIn_of_wp_marks Tryz.func61 rfl trivial ?_ rfl
  simp only [Tryz.ntmps61, List.size_toArray, List.length_cons, List.length_nil, Nat.reduceAdd, Nat.reduceSub, Array.replicate_succ, Array.replicate_zero, List.push_toArray, List.append_toArray, List.nil_append, List.cons_append]
  refine wpIn_wide.2 ?_
  go_upto_region 2 with fail
  rw [← HW1.out]
  clear hmm HW1
  go_wp2
  refine wp_loop_ghost (fun M A' X => ∃ (i n : Nat) (ds : List Deferred), FrAp (.agg #[.int .i64 (W : Int), .int .i64 (H : Int), .slice aw nw cw, .slice ak nk ck]) (.slice av N capv) w.heap.size N i ds A' ∧ M + i = N ∧ n ≤ 64 * i ∧ Hid (apF G [] (sidesW G ((ls.take i).map toW)) = true) ∧ Hid (SMap X (w.heap.size + 2) n ((sidesW G ((ls.take i).map toW)).reverse.map lkS)) ∧ Hid (X.heap[w.heap.size + 1]? = some (.cells #[.bool false] 4 (0, 0))) ∧ Hid (KeepT [w.heap.size + 2, w.heap.size + 1] w.heap.size 0 w1 X) ∧ Hid (Marks (w.heap.size + 4) ds X)) N ?start ?round
  case start => exact ⟨0, 0, [], FrAp.mk, rfl, by omega, Lib.hid rfl, M2, B1, Lib.hid (KeepT.refl _ _ _ _), Lib.hid (Marks.nil _ _)⟩
  case round =>
    clear M2 B1
    rintro M A' X ⟨i, n, ds, ⟨f, rfl⟩, hMN, hn, hap, hm, hb4, hK, hmk⟩
    have hzX : w.heap.size + 4 ≤ X.heap.size := by rw [← HZ1.out]; exact hK.out.size
    by_cases hlt : i < N
    · have hEX : Ext w X := KeepT.below HE1.out hK.out (by simp) (Nat.le_refl _)
      obtain ⟨b, off, x0, s, hav, hx0, hc0, hrd, hc1⟩ := HR.out.at (show i < ls.length by rw [← HN.out]; exact hlt)
      subst hav
      obtain ⟨-, sa, sc, rfl⟩ := hrd.shape
      have hc0 := cell_ext hEX hc0
      have hc1 := cell_ext hEX hc1
      have hwo := HOK.out x0 (List.mem_of_getElem? hx0)
      obtain ⟨ws, hws⟩ : ∃ ws, ws = (toW x0).1 := ⟨_, rfl⟩
      obtain ⟨o, ho⟩ : ∃ o, o = (toW x0).2 := ⟨_, rfl⟩
      obtain ⟨h1, h2, h3, h4, h5, h6, h7⟩ := hwo
      rw [← hws] at h1 h3 h4 h5 h7
      rw [← ho] at h2 h6
      rw [h2] at hc1
      obtain ⟨nn, hnn⟩ : ∃ nn, nn = x0.1.length := ⟨_, rfl⟩
      rw [← hnn] at hc0 hrd
      rw [h1] at hrd
      have HTO := Lib.hid (show toW x0 = (ws, o) from by rw [hws, ho])
      have HX0 := Lib.hid hx0; have HNE := Lib.hid h3; have HCL := Lib.hid h4; have HNB := Lib.hid h5; have HED := Lib.hid h6; have HLN := Lib.hid h7; have HRD := Lib.hid hrd
      have hka : (0 : Int) ≤ (i : Int) := by omega
      have hkb : (i : Int) < (N : Int) := by omega
      have B0X := Lib.hid (hK.out.cells (by simp) B0.out (by decide)); have B3X := Lib.hid (hK.out.cells (by simp) B3.out (by decide))
      obtain ⟨p0, p1, p2, p3⟩ := cells4 B0X.out
      obtain ⟨L, hL⟩ : ∃ L, L = usesW G ws o := ⟨_, rfl⟩
      have HL := Lib.hid hL
      have HLe := Lib.hid (show L.length ≤ 64 from by rw [hL]; exact Nat.le_trans (usesW_le G o ws) h7)
      have HSS := Lib.hid (show ∀ s ∈ L, s.1 < W * H ∧ s.2 < 4 from fun s hs => by
        rw [hL] at hs
        obtain ⟨q1, q2⟩ := usesW_small h6 hs
        exact ⟨h4 _ q1, q2⟩)
      obtain ⟨pre, hpre⟩ : ∃ pre, pre = sidesW G ((ls.take i).map toW) := ⟨_, rfl⟩
      rw [← hpre] at hap hm
      have HPRE := Lib.hid hpre
      have HALL := Lib.hid (show ∃ R, sidesW G (ls.map toW) = pre ++ (L ++ R) from ⟨sidesW G ((ls.drop (i + 1)).map toW), by
        have e1 : ls = ls.take i ++ x0 :: ls.drop (i + 1) := by
          conv => lhs; rw [← List.take_append_drop i ls]
          rw [List.drop_eq_getElem_cons (by rw [← HN.out]; exact hlt)]
          have := (List.getElem?_eq_some_iff.1 hx0).2
          rw [this]
        conv => lhs; rw [e1]
        rw [hpre, hL, List.map_append, List.map_cons, show toW x0 = (ws, o) from by rw [hws, ho]]
        unfold sidesW
        rw [List.flatMap_append, List.flatMap_cons]⟩)
      have HNXT := Lib.hid (show sidesW G ((ls.take (i + 1)).map toW) = pre ++ L from by
        rw [take_snoc hx0, List.map_append, hpre, hL]
        show sidesW G (_ ++ [toW x0]) = _
        rw [show toW x0 = (ws, o) from by rw [hws, ho], sidesW_snoc])
      have HEX := Lib.hid hEX
      clear hx0 hws ho h1 h2 h3 h4 h5 h6 h7 hnn hL hpre hEX
      obtain ⟨M, rfl⟩ : ∃ M', M = M' + 1 := ⟨M - 1, by omega⟩
      go_upto_region 5 with fail
      obtain ⟨X1, hX1⟩ : ∃ X1, X1 = X.alloc (.cells #[.slice sa nn sc, .int .i64 (oI o)] 60) := ⟨_, rfl⟩
      have HX1 := Lib.hid (show Ext X X1 from by rw [hX1]; exact (Ext.refl X).alloc _)
      have BW1 := Lib.hid (show X1.heap[X.heap.size]? = some (.cells #[.slice sa nn sc, .int .i64 (oI o)] 60 (0, 0)) from by rw [hX1]; exact heap_alloc_new X _)
      have hzx1 : X.heap.size < X1.heap.size := by rw [hX1]; simp
      rw [← hX1]
      clear hX1 p0 p1 p2 p3 hc0 hc1
      obtain ⟨p0, p1, p2, p3⟩ := cells4 (block_ext HX1.out B0X.out)
      obtain ⟨d0, d1⟩ := cells2 BW1.out
      go_wp2_with (first | (go_at_call 98; refine Calls.mono (HUC.out _ _ _ _ _) ?_; intro e Y6 h1; obtain ⟨h1, hY6⟩ := h1; subst h1; have HY6 := Lib.hid hY6; clear hY6) | fail)
      have HE6 := Lib.hid (show Ext X Y6 from by rw [HY6.out]; exact (HX1.out.alloc _).alloc _)
      have B6P := Lib.hid (show Y6.heap[X1.heap.size]? = some (.cells #[.int .i64 (W : Int), .int .i64 (H : Int), .slice aw nw cw, .slice ak nk ck] 72 (0, 0)) from by rw [HY6.out]; exact block_ext ((Ext.refl _).alloc _) (heap_alloc_new X1 _))
      have B6W := Lib.hid (show Y6.heap[X1.heap.size + 1]? = some (.cells #[.slice sa nn sc, .int .i64 (oI o)] 60 (0, 0)) from by rw [HY6.out]; exact heap_alloc_at (X1.alloc _) _ (by simp))
      have hz9 : X1.heap.size + 1 < Y6.heap.size := lt_of_blk B6W.out
      have M6 := Lib.hid (hm.out.ext HE6.out); have B46 := Lib.hid (block_ext HE6.out hb4.out); have B06 := Lib.hid (block_ext HE6.out B0X.out); have B36 := Lib.hid (block_ext HE6.out B3X.out)
      have HK6 := Lib.hid (hK.out.trans (KeepT.ext HE6.out))
      have HM6 := Lib.hid (hmk.out.keepT (rs := []) (b := 0) (e := 0) (KeepT.ext HE6.out) (by simp))
      have HSEQ := Lib.hid (uses_seq W H nw cw nk ck aw ak G HGN.out HGB.out ws o (.slice sa nn sc) 11 (X1.heap.size + 1) X1.heap.size [w.heap.size + 2, w.heap.size + 1] w.heap.size 0 Y6 (by omega) hW hH HNE.out HCL.out HNB.out B6W.out B6P.out (fun Y hY => HRD.out.cellsT (((KeepT.ext HE1.out).trans HK6.out).cellsT.trans hY) (by simp) (Nat.le_refl _)) (by simp; omega) (by simp; omega) (by simp; omega) (.inl (by decide)) (.inl (by decide)) (by decide))
      rw [← HL.out] at HSEQ
      clear p0 p1 p2 p3 d0 d1 hm hb4 hK hmk HY6 B0X B3X
      refine (wpIn_wide (n := 12)).1 ?_
      refine wp_seqLB (n := 12) (by omega) (gf := 118) (encs := encS) (ps := #[19]) (rs := [w.heap.size + 2, w.heap.size + 1]) (b := w.heap.size) (e := 0) rfl (enters_of Tryz.func118 (by kernel_rfl) rfl) HSEQ.out (Below.refl _ _) (fun _ => rfl) (by simp; omega)
        (fun k Y => apF G [] (pre ++ L.take k) = true ∧ SMap Y (w.heap.size + 2) (n + k) ((pre ++ L.take k).reverse.map lkS) ∧ Y.heap[w.heap.size + 1]? = some (.cells #[.bool false] 4 (0, 0)) ∧ KeepT [w.heap.size + 2, w.heap.size + 1] w.heap.size 0 Y6 Y)
        (fun q k Y => q = .ret ∧ apF G [] (sidesW G (ls.map toW)) = false ∧ Y.heap[w.heap.size + 1]? = some (.cells #[.bool false] 4 (0, 0)) ∧ KeepT [w.heap.size + 2, w.heap.size + 1] w.heap.size 0 Y6 Y) ?hI ?hIx ?h0 ?hIE 124 (fun s => #[.int .i64 (s.1 : Int), .int .i64 (s.2 : Int)]) ?af ?assign ?body ?done ?stop
      case hI =>
        rintro s A' B row ⟨h0, h1, h2, h3⟩ hg hr
        obtain ⟨es, ck', hb⟩ := h1.blk
        refine ⟨h0, h1.same (hg.block _ h1.lt (fun e => ?_)), cells_turn h2 hg hr, ownFrom_keepT (β := Unit) (Nat.le_refl _) () A' B row h3 hg hr⟩
        obtain ⟨q3, -⟩ := hr _ (by first | exact e | exact e.symm)
        omega
      case hIx =>
        rintro q s A' B row ⟨h0, h1, h2, h3⟩ hg hr
        exact ⟨h0, h1, cells_turn h2 hg hr, ownFrom_keepT (β := Unit) (Nat.le_refl _) () A' B row h3 hg hr⟩
      case h0 => exact ⟨by rw [List.take_zero, List.append_nil]; exact hap.out, by rw [List.take_zero, List.append_nil]; exact M6.out, B46.out, KeepT.refl _ _ _ _⟩
      case hIE =>
        rintro k A' B ⟨h0, h1, h2, h3⟩ hE
        exact ⟨h0, h1.ext hE, block_ext hE h2, h3.trans (KeepT.ext hE)⟩
      case assign =>
        rintro l2 x A' B K hB hK
        dsimp only [encS]
        gi_wp2
        first | rw [← hB] | skip
        exact hK
      case body =>
        rintro l2 k x Bx Z hl2 hx ⟨hap2, hm, hb4, hK⟩ hBx hbx
        have hB0 := hK.cells (by simp) B06.out (by decide); have hB3 := hK.cells (by simp) B36.out (by decide)
        have hkl : k < L.length := (List.getElem?_eq_some_iff.1 hx).1
        have hll := HLe.out
        obtain ⟨hx1, hx2⟩ := HSS.out x (List.mem_of_getElem? hx)
        have HTU := Lib.hid (HTUR.out x hx1 hx2)
        obtain ⟨U, hU⟩ : ∃ U, U = (pre ++ L.take k).reverse := ⟨_, rfl⟩
        rw [← hU] at hm
        have hsn := apF_snoc (G := G) (L := pre ++ L.take k) (U := []) (s := x)
        rw [hap2, Bool.true_and, List.append_nil, ← hU] at hsn
        have hst : (memB U x || tnB G U x) = true → apF G [] (sidesW G (ls.map toW)) = false := fun h => by
          obtain ⟨R, hR⟩ := HALL.out
          obtain ⟨R2, hR2⟩ : ∃ R2, L = L.take k ++ x :: R2 := ⟨L.drop (k + 1), by
            conv => lhs; rw [← List.take_append_drop k L]
            rw [List.drop_eq_getElem_cons hkl, (List.getElem?_eq_some_iff.1 hx).2]⟩
          rw [hR]
          conv => lhs; rw [hR2]
          rw [List.append_assoc, ← List.append_assoc, List.cons_append]
          exact apF_stop (by rw [List.append_nil, ← hU]; exact h)
        have HLK := Lib.hid (fun (Y : World) (h : Ext Z Y) => (hm.ext h).look (lkS x) (sm_lkS (by omega) hx2))
        have HLT := Lib.hid (fun (Y : World) (h : Ext Z Y) => (hm.ext h).look (lkT W H x) (sm_lkT hW hH hx1 hx2))
        rw [mem_lk] at HLK
        rw [tn_lk hW.2 hH.2 HGB.out hx1 hx2] at HLT
        obtain ⟨fm, hfm⟩ : ∃ fm, fm = memB U x := ⟨_, rfl⟩
        obtain ⟨ft, hft⟩ : ∃ ft, ft = tnB G U x := ⟨_, rfl⟩
        rw [← hfm] at HLK
        rw [← hft] at HLT
        rw [← hfm, ← hft] at hsn hst
        have HSN := Lib.hid hsn; have HST := Lib.hid hst; have HU := Lib.hid hU; have HXX := Lib.hid hx
        have HM := Lib.hid hm; have HK := Lib.hid hK; have BX := Lib.hid hbx; have G0 := Lib.hid hB0; have G3 := Lib.hid hB3; have R4 := Lib.hid hb4
        have hnx : Bx ≠ w.heap.size + 1 := by omega
        clear hsn hst hU hx hm hK hbx hB0 hB3 hb4 hfm hft hap2
        gi_upto_region 7 with fail
        cases fm
        · refine wpIn_order (tk := takeB) (fun _ => trivial) (fun V : World => V.heap[w.heap.size]? = some (.cells #[.int .i64 (W : Int), .int .i64 (H : Int), .slice aw nw cw, .slice ak nk ck] 72 (0, 0)) ∧ V.heap[w.heap.size + 3]? = some (.cells #[.map (some (w.heap.size + 2))] 113 (0, 0)) ∧ V.heap[Bx]? = some (.cells #[.int .i64 (x.1 : Int), .int .i64 (x.2 : Int)] 124 (0, 0))) [0, 1, 2, 3, 4, 5, 6, 7, 8, 9] (by kernel_rfl) (by kernel_rfl) (by kernel_rfl) (by exact ⟨G0.out, G3.out, BX.out⟩) (fun hHeld => ?_)
          simp only [opsIn, List.filterMap_cons, List.filterMap_nil, List.getElem?_toArray, List.getElem?_cons_succ, List.getElem?_cons_zero]
          refine' textI_chunk 2 (by kernel_rfl) hHeld ?ck1 ?cr1
          case ck1 =>
            intro W hSw
            have hSW := hSw
            try dsimp only at hSW
            clear hSw
            obtain ⟨s1, s2, s3⟩ := hSW
            obtain ⟨p0, p1, p2, p3⟩ := cells4 s1
            have q0 := cell_of_blk s2 (o := 0) rfl
            obtain ⟨d0, d1⟩ := cells2 s3
            simp only [List.take_succ_cons, List.take_zero, List.drop_succ_cons, List.drop_zero]
            repeat (go_big_quiet_step (fail))
            exact wpQuiet_nil rfl
          simp only [List.take_succ_cons, List.take_zero, List.drop_succ_cons, List.drop_zero]
          have hL : (Instr.lookup 113 (.map (some (w.heap.size + 2))) (kv (lkS x)) false).run Tryz.prog Z.drew = .ok (.bool false) Z.drew := HLK.out Z.drew (Ext.refl Z).drew
          refine textI_call (by rfl) (by rfl) (fun K hK => ?_)
          unfold kv lkS at hL
          dsimp only at hL
          go_simp
          all_goals (try (gi_wp2_with fail))
          refine hK.out _ _ (by exact hHeld) (fun hHeld => ?_)
          clear hK K hL
          try simp only [Act.put, List.setIfInBounds_toArray, List.set_cons_zero, List.set_cons_succ]
          refine' textI_chunk 4 (by kernel_rfl) hHeld ?ck2 ?cr2
          case ck2 =>
            intro W hSw
            have hSW := hSw
            try dsimp only at hSW
            clear hSw
            obtain ⟨s1, s2, s3⟩ := hSW
            obtain ⟨p0, p1, p2, p3⟩ := cells4 s1
            have q0 := cell_of_blk s2 (o := 0) rfl
            obtain ⟨d0, d1⟩ := cells2 s3
            simp only [List.take_succ_cons, List.take_zero, List.drop_succ_cons, List.drop_zero]
            repeat (go_big_quiet_step (fail))
            exact wpQuiet_nil rfl
          simp only [List.take_succ_cons, List.take_zero, List.drop_succ_cons, List.drop_zero]
          refine textI_call (by rfl) (by rfl) (fun K hK => ?_)
          go_simp
          refine ⟨trivial, (CallsIn.inRound l2 (callsIn_wide.2 (HTU.out _))).mono ?_⟩
          rintro e V1 ⟨rfl, he1⟩
          have HEE := Lib.hid he1
          have HV1 := Lib.hid ((Ext.refl Z).drew.trans he1)
          clear he1
          all_goals (try (gi_wp2_with fail))
          refine hK.out _ _ (by exact ⟨block_ext HEE.out hHeld.1, block_ext HEE.out hHeld.2.1, block_ext HEE.out hHeld.2.2⟩) (fun hHeld => ?_)
          clear hK K
          try simp only [Act.put, List.setIfInBounds_toArray, List.set_cons_zero, List.set_cons_succ]
          have hL : (Instr.lookup 113 (.map (some (w.heap.size + 2))) (kv (lkT W H x)) false).run Tryz.prog V1 = .ok (.bool ft) V1 := HLT.out V1 HV1.out
          refine textI_call (by rfl) (by rfl) (fun K hK => ?_)
          unfold kv lkT at hL
          dsimp only at hL
          go_simp
          all_goals (try (gi_wp2_with fail))
          refine hK.out _ _ (by exact hHeld) (fun hHeld => ?_)
          clear hK K hL
          try simp only [Act.put, List.setIfInBounds_toArray, List.set_cons_zero, List.set_cons_succ]
          refine' textI_chunk 1 (by kernel_rfl) hHeld ?ck3 ?cr3
          case ck3 =>
            intro W hSw
            have hSW := hSw
            try dsimp only at hSW
            clear hSw
            skip
            simp only [List.take_succ_cons, List.take_zero, List.drop_succ_cons, List.drop_zero]
            repeat (go_big_quiet_step (fail))
            exact wpQuiet_nil rfl
          simp only [List.take_succ_cons, List.take_zero, List.drop_succ_cons, List.drop_zero]
          refine textI_done ?_
          have Q0 := Lib.hid hHeld.1; have Q3 := Lib.hid hHeld.2.1; have QX := Lib.hid hHeld.2.2
          clear hHeld HEE
          have q0 := cell_of_blk Q3.out (o := 0) rfl
          obtain ⟨d0, d1⟩ := cells2 QX.out
          have r4 := cell_of_blk (block_ext HV1.out R4.out) (o := 0) rfl
          have f4 := frozen_of_blk (block_ext HV1.out R4.out) 0
          cases ft
          · obtain ⟨w', hrun, hm', ht⟩ := (HM.out.ext HV1.out).put (by omega) (lkS x) (sm_lkS (by omega) hx2)
            have HRUN := Lib.hid hrun
            clear r4 f4
            unfold kv lkS at hrun
            dsimp only at hrun
            gi_wp2_with (first | (refine wpListIn_put_run (fun _ => trivial) rfl 113 _ _ _ rfl rfl rfl rfl hrun ?_) | fail)
            have hg := ht.grown
            have hk1 : KeepT [w.heap.size + 2, w.heap.size + 1] w.heap.size 0 Z w' := (KeepT.ext HV1.out).trans ((KeepT.refl _ _ _ _).grown_in hg (fun g e => by cases e; exact .inl (by simp)))
            refine ⟨hk1, ?_, ?_, ?_, HK.out.trans hk1⟩
            · rw [take_snoc HXX.out, ← List.append_assoc]
              have h := HSN.out
              simpa using h
            · rw [take_snoc HXX.out, ← List.append_assoc, List.reverse_append, ← HU.out]
              exact hm'
            · exact (hg.block _ (lt_of_blk (block_ext HV1.out R4.out)) (fun e => by have := Option.some.inj e; omega)).trans (block_ext HV1.out R4.out)
          · gi_wp2
            have hkq : KeepT [w.heap.size + 2, w.heap.size + 1] w.heap.size 0 Z (V1.setCell ⟨w.heap.size + 1, 0, none⟩ (.bool false)) := (KeepT.ext HV1.out).trans (KeepT.set _ (by simp) _)
            exact ⟨hkq, rfl, HST.out (by first | rfl | trivial | simp), boxed_set (block_ext HV1.out R4.out) (.bool false), HK.out.trans hkq⟩
        · refine wpIn_order (tk := takeB) (fun _ => trivial) (fun V : World => V.heap[w.heap.size]? = some (.cells #[.int .i64 (W : Int), .int .i64 (H : Int), .slice aw nw cw, .slice ak nk ck] 72 (0, 0)) ∧ V.heap[w.heap.size + 3]? = some (.cells #[.map (some (w.heap.size + 2))] 113 (0, 0)) ∧ V.heap[Bx]? = some (.cells #[.int .i64 (x.1 : Int), .int .i64 (x.2 : Int)] 124 (0, 0))) [0, 1, 2, 3, 4, 5, 6, 7, 8, 9] (by kernel_rfl) (by kernel_rfl) (by kernel_rfl) (by exact ⟨G0.out, G3.out, BX.out⟩) (fun hHeld => ?_)
          simp only [opsIn, List.filterMap_cons, List.filterMap_nil, List.getElem?_toArray, List.getElem?_cons_succ, List.getElem?_cons_zero]
          refine' textI_chunk 2 (by kernel_rfl) hHeld ?ck4 ?cr4
          case ck4 =>
            intro W hSw
            have hSW := hSw
            try dsimp only at hSW
            clear hSw
            obtain ⟨s1, s2, s3⟩ := hSW
            obtain ⟨p0, p1, p2, p3⟩ := cells4 s1
            have q0 := cell_of_blk s2 (o := 0) rfl
            obtain ⟨d0, d1⟩ := cells2 s3
            simp only [List.take_succ_cons, List.take_zero, List.drop_succ_cons, List.drop_zero]
            repeat (go_big_quiet_step (fail))
            exact wpQuiet_nil rfl
          simp only [List.take_succ_cons, List.take_zero, List.drop_succ_cons, List.drop_zero]
          have hL : (Instr.lookup 113 (.map (some (w.heap.size + 2))) (kv (lkS x)) false).run Tryz.prog Z.drew = .ok (.bool true) Z.drew := HLK.out Z.drew (Ext.refl Z).drew
          refine textI_call (by rfl) (by rfl) (fun K hK => ?_)
          unfold kv lkS at hL
          dsimp only at hL
          go_simp
          all_goals (try (gi_wp2_with fail))
          refine hK.out _ _ (by exact hHeld) (fun hHeld => ?_)
          clear hK K hL
          try simp only [Act.put, List.setIfInBounds_toArray, List.set_cons_zero, List.set_cons_succ]
          refine' textI_chunk 1 (by kernel_rfl) hHeld ?ck5 ?cr5
          case ck5 =>
            intro W hSw
            have hSW := hSw
            try dsimp only at hSW
            clear hSw
            skip
            simp only [List.take_succ_cons, List.take_zero, List.drop_succ_cons, List.drop_zero]
            repeat (go_big_quiet_step (fail))
            exact wpQuiet_nil rfl
          simp only [List.take_succ_cons, List.take_zero, List.drop_succ_cons, List.drop_zero]
          refine textI_skip (by rfl) ?_
          try simp only [Act.put, List.setIfInBounds_toArray, List.set_cons_zero, List.set_cons_succ]
          refine textI_skip (by rfl) ?_
          try simp only [Act.put, List.setIfInBounds_toArray, List.set_cons_zero, List.set_cons_succ]
          refine textI_skip (by rfl) ?_
          try simp only [Act.put, List.setIfInBounds_toArray, List.set_cons_zero, List.set_cons_succ]
          refine textI_skip (by rfl) ?_
          try simp only [Act.put, List.setIfInBounds_toArray, List.set_cons_zero, List.set_cons_succ]
          refine textI_skip (by rfl) ?_
          try simp only [Act.put, List.setIfInBounds_toArray, List.set_cons_zero, List.set_cons_succ]
          refine' textI_chunk 1 (by kernel_rfl) hHeld ?ck6 ?cr6
          case ck6 =>
            intro W hSw
            have hSW := hSw
            try dsimp only at hSW
            clear hSw
            skip
            simp only [List.take_succ_cons, List.take_zero, List.drop_succ_cons, List.drop_zero]
            repeat (go_big_quiet_step (fail))
            exact wpQuiet_nil rfl
          simp only [List.take_succ_cons, List.take_zero, List.drop_succ_cons, List.drop_zero]
          refine textI_done ?_
          clear hHeld
          have hz := (Ext.refl Z).drew
          have r4 := cell_of_blk (block_ext hz R4.out) (o := 0) rfl
          have f4 := frozen_of_blk (block_ext hz R4.out) 0
          clear hz
          gi_wp2
          have hkq : KeepT [w.heap.size + 2, w.heap.size + 1] w.heap.size 0 Z (Z.drew.setCell ⟨w.heap.size + 1, 0, none⟩ (.bool false)) := (KeepT.ext (Ext.refl Z).drew).trans (KeepT.set _ (by simp) _)
          exact ⟨hkq, rfl, HST.out (by first | rfl | trivial | simp), boxed_set (block_ext (Ext.refl Z).drew R4.out) (.bool false), HK.out.trans hkq⟩
      case done =>
        rintro D Z hD ⟨hap2, hm, hb4, hK⟩ hDW
        rw [List.take_length] at hap2 hm
        have HAP := Lib.hid (show apF G [] (sidesW G ((ls.take (i + 1)).map toW)) = true from by rw [HNXT.out]; exact hap2)
        have HM := Lib.hid (show SMap Z (w.heap.size + 2) (n + L.length) ((sidesW G ((ls.take (i + 1)).map toW)).reverse.map lkS) from by rw [HNXT.out]; exact hm)
        have HB := Lib.hid hb4
        have HK := Lib.hid (HK6.out.trans hK)
        have HMK := Lib.hid (Marks.cons (HM6.out.keepT hK (by simp)) HM6.out hD (by omega) hDW)
        have hll := HLe.out
        clear hap2 hm hb4 hK hDW
        have hw2 : IntKind.i64.wrap ((i : Int) + 1) = ((i + 1 : Nat) : Int) := by rw [wrapi64 _ (by omega) (by omega)]; push_cast; rfl
        go_wp2
        exact ⟨M, by omega, i + 1, n + L.length, _, FrAp.mk, by omega, by omega, HAP, HM, HB, HK, HMK⟩
      case stop =>
        rintro D q k Z hD hk ⟨rfl, hap2, hb4, hK⟩ hDW
        have hmk' := Marks.cons (HM6.out.keepT hK (by simp)) HM6.out hD (by omega) hDW
        obtain ⟨dsn, hdsn⟩ : ∃ dsn, dsn = ({ target := .collected D, args := #[] } : Deferred) :: ds := ⟨_, rfl⟩
        rw [← hdsn] at hmk' ⊢
        have HMK := Lib.hid hmk'
        have HEZ := Lib.hid (show Ext w Z from KeepT.below HE1.out (HK6.out.trans hK) (by simp) (Nat.le_refl _))
        have HB := Lib.hid hb4; have HAP := Lib.hid hap2
        clear hmk' hb4 hK hDW hdsn hap2
        gi_wp2
        refine marks_leaveJ (base := w.heap.size + 4) (fun Y => Y.heap[w.heap.size + 1]? = some (.cells #[.bool false] 4 (0, 0)) ∧ Ext w Y) ?_ _ _ _ (by simp) ⟨HB.out, HEZ.out⟩ HMK.out (fun W' hj => ?_)
        · rintro Y D ⟨j1, j2⟩ hD hY
          refine ⟨(World.putObj_heap_other (by omega)).trans j1, ?_⟩
          exact ⟨j2.os, j2.tape, j2.output, by have := j2.size; simpa [World.putObj] using this, fun k hk => by rw [World.putObj_heap_other (by omega)]; exact j2.block k hk⟩
        · have r0 := cell_of_blk hj.1 (o := 0) rfl
          refine ⟨_, by first | (simp [results, Tryz.results61, go_sem, r0]; done) | (simp [results, Tryz.results61, go_sem, r0]; rfl), ret_bool ?_, hj.2⟩
          unfold apB
          exact HAP.out.symm
    · obtain rfl : i = N := by omega
      have hfin : apB G ls = true := by
        have h := hap.out
        rw [HN.out, List.take_length] at h
        exact h
      have HFIN := Lib.hid hfin
      have r4 := cell_of_blk hb4.out (o := 0) rfl
      have f4 := frozen_of_blk hb4.out 0
      have hk1 : KeepT [w.heap.size + 2, w.heap.size + 1] w.heap.size 0 X (X.setCell ⟨w.heap.size + 1, 0, none⟩ (.bool true)) := KeepT.set _ (by simp) _
      have HEX := Lib.hid (show Ext w (X.setCell ⟨w.heap.size + 1, 0, none⟩ (.bool true)) from KeepT.below HE1.out (hK.out.trans hk1) (by simp) (Nat.le_refl _))
      have HB := Lib.hid (boxed_set hb4.out (.bool true))
      have HMK := Lib.hid (hmk.out.keepT hk1 (by simp))
      clear hap hm hb4 hK hmk hfin hk1
      go_wp2
      refine marks_leaveJ (base := w.heap.size + 4) (fun Y => Y.heap[w.heap.size + 1]? = some (.cells #[.bool true] 4 (0, 0)) ∧ Ext w Y) ?_ _ _ _ (by simp) ⟨HB.out, HEX.out⟩ HMK.out (fun W' hj => ?_)
      · rintro Y D ⟨j1, j2⟩ hD hY
        refine ⟨(World.putObj_heap_other (by omega)).trans j1, ?_⟩
        exact ⟨j2.os, j2.tape, j2.output, by have := j2.size; simpa [World.putObj] using this, fun k hk => by rw [World.putObj_heap_other (by omega)]; exact j2.block k hk⟩
      · have r0 := cell_of_blk hj.1 (o := 0) rfl
        exact ⟨_, by first | (simp [results, Tryz.results61, go_sem, r0]; done) | (simp [results, Tryz.results61, go_sem, r0]; rfl), ret_bool HFIN.out.symm, hj.2⟩
end Go.Proofs.YtppjnpempgpkaaaGreat
