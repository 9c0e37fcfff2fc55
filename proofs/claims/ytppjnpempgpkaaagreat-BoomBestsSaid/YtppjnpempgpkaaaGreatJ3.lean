/- The functions of the package over ponds: Fewest, Small, Large, by their contracts. Kind, Sticks, Ways, CheckWays, by their contracts. Sticks, Ways, CheckWays, by their contracts. -/
import Derived.Test.YtppjnpempgpkaaaGreatH7
import Derived.Test.YtppjnpempgpkaaaGreatH6
import Derived.Test.YtppjnpempgpkaaaGreatG2
import Derived.Test.YtppjnpempgpkaaaGreatN3
namespace Go.Proofs.YtppjnpempgpkaaaGreat
open Go.RowKit Go.Shelf
set_option linter.unusedVariables false
set_option linter.unusedSimpArgs false
attribute [local go_sem] Oper.semAt_some

theorem openOk (W H nw cw nk ck : Nat) (aw ak : Option Addr) (wn kn : List Nat) (hv : VP W H wn kn) (w : World) (hw : Reads w (.slice aw nw cw) (natI wn)) (hk : Reads w (.slice ak nk ck) (natI kn)) : Calls Tryz.prog 44 #[.agg #[.int .i64 (W : Int), .int .i64 (H : Int), .slice aw nw cw, .slice ak nk ck]] w fun e w' => e = .returned (.tuple #[.agg #[.int .i64 (W : Int), .int .i64 (H : Int), .slice aw nw cw, .slice ak nk ck], .int .i64 0]) ∧ Ext w w' :=
  (open_c (W : Int) (H : Int) nw cw nk ck aw ak (natI wn) (natI kn) w hw hk).mono fun e w' ⟨h1, h2⟩ => ⟨(h1.resolve_right fun h => h.1 (chkP_ok.2 ⟨W, H, wn, kn, ⟨rfl, rfl⟩, ⟨rfl, rfl⟩, hv⟩)).2, h2⟩
theorem openNo (W H : Int) (nw cw nk ck : Nat) (aw ak : Option Addr) (wl kl : List Int) (w : World) (hw : Reads w (.slice aw nw cw) wl) (hk : Reads w (.slice ak nk ck) kl) (hne : chkP W H wl kl ≠ 0) : Calls Tryz.prog 44 #[.agg #[.int .i64 W, .int .i64 H, .slice aw nw cw, .slice ak nk ck]] w fun e w' => e = .returned (.tuple #[.agg #[.int .i64 0, .int .i64 0, .slice none 0 0, .slice none 0 0], .int .i64 (chkP W H wl kl)]) ∧ Ext w w' :=
  (open_c W H nw cw nk ck aw ak wl kl w hw hk).mono fun e w' ⟨h1, h2⟩ => ⟨(h1.resolve_left fun h => hne h.1).2, h2⟩
set_option maxRecDepth 100000 in
set_option maxHeartbeats 1000000 in
theorem fewest_no (W H : Int) (nw cw nk ck : Nat) (aw ak : Option Addr) (wl kl : List Int) (w : World) (hw : Reads w (.slice aw nw cw) wl) (hk : Reads w (.slice ak nk ck) kl) (hne : chkP W H wl kl ≠ 0) :
    Calls Tryz.prog 11 #[.agg #[.int .i64 W, .int .i64 H, .slice aw nw cw, .slice ak nk ck]] w fun e w' => e = .returned (.tuple #[.int .i64 0, .int .i64 (chkP W H wl kl)]) ∧ Ext w w' := by
  have HOP := Lib.hid (fun (X : World) (h : Ext w X) => openNo W H nw cw nk ck aw ak wl kl X (hw.ext h) (hk.ext h) hne)
  have E0 := Lib.hid ((Ext.refl w).alloc (.cells #[.int .i64 W, .int .i64 H, .slice aw nw cw, .slice ak nk ck] 24))
  generalize chkP W H wl kl = r at *
  have hb : (r != 0) = true := by simpa using hne
  have hb2 : decide (r = 0) = false := decide_eq_false hne
  clear hne
  go_enter Tryz.func11, Tryz.ntmps11
  go_wp2_with (first | (go_at_call 44; refine Calls.mono (HOP.out _ E0.out) ?_; intro e Y1 h1; obtain ⟨h1, hE⟩ := h1; subst h1; have HY1 := Lib.hid (E0.out.trans hE); clear hE) | fail)
  refine bodyPost_ret (by first | (simp [results, Tryz.results11, go_sem]; done) | (simp [results, Tryz.results11, go_sem]; rfl)) rfl ?_
  exact ⟨rfl, HY1.out.alloc _⟩
set_option maxRecDepth 100000 in
set_option maxHeartbeats 1000000 in
theorem small_no (W H : Int) (nw cw nk ck : Nat) (aw ak : Option Addr) (wl kl : List Int) (w : World) (hw : Reads w (.slice aw nw cw) wl) (hk : Reads w (.slice ak nk ck) kl) (hne : chkP W H wl kl ≠ 0) :
    Calls Tryz.prog 13 #[.agg #[.int .i64 W, .int .i64 H, .slice aw nw cw, .slice ak nk ck]] w fun e w' => e = .returned (.tuple #[.slice none 0 0, .int .i64 (chkP W H wl kl)]) ∧ Ext w w' := by
  have HOP := Lib.hid (fun (X : World) (h : Ext w X) => openNo W H nw cw nk ck aw ak wl kl X (hw.ext h) (hk.ext h) hne)
  have E0 := Lib.hid ((Ext.refl w).alloc (.cells #[.int .i64 W, .int .i64 H, .slice aw nw cw, .slice ak nk ck] 24))
  generalize chkP W H wl kl = r at *
  have hb : (r != 0) = true := by simpa using hne
  have hb2 : decide (r = 0) = false := decide_eq_false hne
  clear hne
  go_enter Tryz.func13, Tryz.ntmps13
  go_wp2_with (first | (go_at_call 44; refine Calls.mono (HOP.out _ E0.out) ?_; intro e Y1 h1; obtain ⟨h1, hE⟩ := h1; subst h1; have HY1 := Lib.hid (E0.out.trans hE); clear hE) | fail)
  refine bodyPost_ret (by first | (simp [results, Tryz.results13, go_sem]; done) | (simp [results, Tryz.results13, go_sem]; rfl)) rfl ?_
  exact ⟨rfl, HY1.out.alloc _⟩
set_option maxRecDepth 100000 in
set_option maxHeartbeats 1000000 in
theorem large_no (W H : Int) (nw cw nk ck : Nat) (aw ak : Option Addr) (wl kl : List Int) (w : World) (hw : Reads w (.slice aw nw cw) wl) (hk : Reads w (.slice ak nk ck) kl) (hne : chkP W H wl kl ≠ 0) :
    Calls Tryz.prog 15 #[.agg #[.int .i64 W, .int .i64 H, .slice aw nw cw, .slice ak nk ck]] w fun e w' => e = .returned (.tuple #[.slice none 0 0, .int .i64 (chkP W H wl kl)]) ∧ Ext w w' := by
  have HOP := Lib.hid (fun (X : World) (h : Ext w X) => openNo W H nw cw nk ck aw ak wl kl X (hw.ext h) (hk.ext h) hne)
  have E0 := Lib.hid ((Ext.refl w).alloc (.cells #[.int .i64 W, .int .i64 H, .slice aw nw cw, .slice ak nk ck] 24))
  generalize chkP W H wl kl = r at *
  have hb : (r != 0) = true := by simpa using hne
  have hb2 : decide (r = 0) = false := decide_eq_false hne
  clear hne
  go_enter Tryz.func15, Tryz.ntmps15
  go_wp2_with (first | (go_at_call 44; refine Calls.mono (HOP.out _ E0.out) ?_; intro e Y1 h1; obtain ⟨h1, hE⟩ := h1; subst h1; have HY1 := Lib.hid (E0.out.trans hE); clear hE) | fail)
  refine bodyPost_ret (by first | (simp [results, Tryz.results15, go_sem]; done) | (simp [results, Tryz.results15, go_sem]; rfl)) rfl ?_
  exact ⟨rfl, HY1.out.alloc _⟩
set_option maxRecDepth 100000 in
set_option maxHeartbeats 1000000 in
theorem ways_no (W H : Int) (nw cw nk ck : Nat) (aw ak : Option Addr) (wl kl : List Int) (w : World) (hw : Reads w (.slice aw nw cw) wl) (hk : Reads w (.slice ak nk ck) kl) (hne : chkP W H wl kl ≠ 0) :
    Calls Tryz.prog 23 #[.agg #[.int .i64 W, .int .i64 H, .slice aw nw cw, .slice ak nk ck]] w fun e w' => e = .returned (.tuple #[.slice none 0 0, .int .i64 (chkP W H wl kl)]) ∧ Ext w w' := by
  have HOP := Lib.hid (fun (X : World) (h : Ext w X) => openNo W H nw cw nk ck aw ak wl kl X (hw.ext h) (hk.ext h) hne)
  have E0 := Lib.hid ((Ext.refl w).alloc (.cells #[.int .i64 W, .int .i64 H, .slice aw nw cw, .slice ak nk ck] 24))
  generalize chkP W H wl kl = r at *
  have hb : (r != 0) = true := by simpa using hne
  have hb2 : decide (r = 0) = false := decide_eq_false hne
  clear hne
  go_enter Tryz.func23, Tryz.ntmps23
  go_wp2_with (first | (go_at_call 44; refine Calls.mono (HOP.out _ E0.out) ?_; intro e Y1 h1; obtain ⟨h1, hE⟩ := h1; subst h1; have HY1 := Lib.hid (E0.out.trans hE); clear hE) | fail)
  refine bodyPost_ret (by first | (simp [results, Tryz.results23, go_sem]; done) | (simp [results, Tryz.results23, go_sem]; rfl)) rfl ?_
  exact ⟨rfl, HY1.out.alloc _⟩
set_option maxRecDepth 100000 in
set_option maxHeartbeats 1000000 in
theorem kind_no (W H : Int) (nw cw nk ck : Nat) (aw ak : Option Addr) (wl kl : List Int) (w : World) (hw : Reads w (.slice aw nw cw) wl) (hk : Reads w (.slice ak nk ck) kl) (hne : chkP W H wl kl ≠ 0) (cell : Int) :
    Calls Tryz.prog 17 #[.agg #[.int .i64 W, .int .i64 H, .slice aw nw cw, .slice ak nk ck], .int .i64 cell] w fun e w' => e = .returned (.tuple #[.int .i64 0, .int .i64 (chkP W H wl kl)]) ∧ Ext w w' := by
  have HOP := Lib.hid (fun (X : World) (h : Ext w X) => openNo W H nw cw nk ck aw ak wl kl X (hw.ext h) (hk.ext h) hne)
  have E0 := Lib.hid ((Ext.refl w).alloc (.cells #[.int .i64 W, .int .i64 H, .slice aw nw cw, .slice ak nk ck] 24))
  generalize chkP W H wl kl = r at *
  have hb : (r != 0) = true := by simpa using hne
  have hb2 : decide (r = 0) = false := decide_eq_false hne
  clear hne
  go_enter Tryz.func17, Tryz.ntmps17
  go_wp2_with (first | (go_at_call 44; refine Calls.mono (HOP.out _ E0.out) ?_; intro e Y1 h1; obtain ⟨h1, hE⟩ := h1; subst h1; have HY1 := Lib.hid (E0.out.trans hE); clear hE) | fail)
  refine bodyPost_ret (by first | (simp [results, Tryz.results17, go_sem]; done) | (simp [results, Tryz.results17, go_sem]; rfl)) rfl ?_
  exact ⟨rfl, HY1.out.alloc _⟩
set_option maxRecDepth 100000 in
set_option maxHeartbeats 1000000 in
theorem sticks_no (W H : Int) (nw cw nk ck : Nat) (aw ak : Option Addr) (wl kl : List Int) (w : World) (hw : Reads w (.slice aw nw cw) wl) (hk : Reads w (.slice ak nk ck) kl) (hne : chkP W H wl kl ≠ 0) (v : Value) :
    Calls Tryz.prog 27 #[.agg #[.int .i64 W, .int .i64 H, .slice aw nw cw, .slice ak nk ck], v] w fun e w' => e = .returned (.tuple #[.int .i64 0, .int .i64 (chkP W H wl kl)]) ∧ Ext w w' := by
  have HOP := Lib.hid (fun (X : World) (h : Ext w X) => openNo W H nw cw nk ck aw ak wl kl X (hw.ext h) (hk.ext h) hne)
  have E0 := Lib.hid ((Ext.refl w).alloc (.cells #[.int .i64 W, .int .i64 H, .slice aw nw cw, .slice ak nk ck] 24))
  generalize chkP W H wl kl = r at *
  have hb : (r != 0) = true := by simpa using hne
  have hb2 : decide (r = 0) = false := decide_eq_false hne
  clear hne
  go_enter Tryz.func27, Tryz.ntmps27
  go_wp2_with (first | (go_at_call 44; refine Calls.mono (HOP.out _ E0.out) ?_; intro e Y1 h1; obtain ⟨h1, hE⟩ := h1; subst h1; have HY1 := Lib.hid (E0.out.trans hE); clear hE) | fail)
  refine bodyPost_ret (by first | (simp [results, Tryz.results27, go_sem]; done) | (simp [results, Tryz.results27, go_sem]; rfl)) rfl ?_
  exact ⟨rfl, HY1.out.alloc _⟩
set_option maxRecDepth 100000 in
set_option maxHeartbeats 1000000 in
theorem checkWays_no (W H : Int) (nw cw nk ck : Nat) (aw ak : Option Addr) (wl kl : List Int) (w : World) (hw : Reads w (.slice aw nw cw) wl) (hk : Reads w (.slice ak nk ck) kl) (hne : chkP W H wl kl ≠ 0) (v : Value) :
    Calls Tryz.prog 24 #[.agg #[.int .i64 W, .int .i64 H, .slice aw nw cw, .slice ak nk ck], v] w fun e w' => e = .returned (.tuple #[.int .i64 0, .int .i64 (chkP W H wl kl)]) ∧ Ext w w' := by
  have HOP := Lib.hid (fun (X : World) (h : Ext w X) => openNo W H nw cw nk ck aw ak wl kl X (hw.ext h) (hk.ext h) hne)
  have E0 := Lib.hid ((Ext.refl w).alloc (.cells #[.int .i64 W, .int .i64 H, .slice aw nw cw, .slice ak nk ck] 24))
  generalize chkP W H wl kl = r at *
  have hb : (r != 0) = true := by simpa using hne
  have hb2 : decide (r = 0) = false := decide_eq_false hne
  clear hne
  go_enter Tryz.func24, Tryz.ntmps24
  go_wp2_with (first | (go_at_call 44; refine Calls.mono (HOP.out _ E0.out) ?_; intro e Y1 h1; obtain ⟨h1, hE⟩ := h1; subst h1; have HY1 := Lib.hid (E0.out.trans hE); clear hE) | fail)
  refine bodyPost_ret (by first | (simp [results, Tryz.results24, go_sem]; done) | (simp [results, Tryz.results24, go_sem]; rfl)) rfl ?_
  exact ⟨rfl, HY1.out.alloc _⟩
set_option maxRecDepth 100000 in
set_option maxHeartbeats 1000000 in
theorem fewest_ok (W H nw cw nk ck : Nat) (aw ak : Option Addr) (wn kn : List Nat) (hv : VP W H wn kn) (w : World) (hw : Reads w (.slice aw nw cw) (natI wn)) (hk : Reads w (.slice ak nk ck) (natI kn)) :
    Calls Tryz.prog 11 #[.agg #[.int .i64 (W : Int), .int .i64 (H : Int), .slice aw nw cw, .slice ak nk ck]] w fun e w' => e = .returned (.tuple #[.int .i64 (stk (gp hv) (smallB (gp hv) 64 wn (memL kn)) : Int), .int .i64 0]) ∧ Ext w w' := by
  have hW : 1 ≤ W ∧ W ≤ 8 := ⟨hv.w1, hv.w8⟩
  have hH : 1 ≤ H ∧ H ≤ 8 := ⟨hv.h1, hv.h8⟩
  have h0 : chkP W H (natI wn) (natI kn) = 0 := chkP_ok.2 ⟨W, H, wn, kn, ⟨rfl, rfl⟩, ⟨rfl, rfl⟩, hv⟩
  have HOP := Lib.hid (fun (X : World) (h : Ext w X) => openOk W H nw cw nk ck aw ak wn kn hv X (hw.ext h) (hk.ext h))
  have E0 := Lib.hid ((Ext.refl w).alloc (.cells #[.int .i64 (W : Int), .int .i64 (H : Int), .slice aw nw cw, .slice ak nk ck] 24))
  have HNN := Lib.hid (fun (X : World) (h : Ext w X) => newNet_c W H nw cw nk ck aw ak wn kn hW hH (gp hv) rfl rfl hv.pond X (hw.ext h) (hk.ext h))
  have HSM := Lib.hid (fun (V : World) (bn mo n : Nat) (rd : List Bool) (hE : Ext w V) (hb : w.heap.size ≤ bn) (hn : NetB V bn W H (.slice aw nw cw) (.slice ak nk ck) mo rd) (hm : SMap V mo n ((flowF (gp hv) 64 wn (memL kn)).map lkS)) => small_c W H nw cw nk ck aw ak wn kn hW hH (gp hv) rfl rfl hv.pond bn mo n _ rd V hn hm (fun Y hY => hw.ext (KeepT.below hE hY (by simpa using hb) hE.size)) (fun Y hY => hk.ext (KeepT.below hE hY (by simpa using hb) hE.size)))
  go_enter Tryz.func11, Tryz.ntmps11
  go_wp2_with (first | (go_at_call 44; refine Calls.mono (HOP.out _ E0.out) ?_; intro e Y1 h1; obtain ⟨h1, hE⟩ := h1; subst h1; have HY1 := Lib.hid (E0.out.trans hE); clear hE) | (go_at_call 45; refine Calls.mono (HNN.out _ (HY1.out.alloc _)) ?_; intro e V h1; obtain ⟨bn, mo, n, rd, h1, hb, hm, hn, hs, hn6, hE⟩ := h1; subst h1; have HEV := Lib.hid ((HY1.out.alloc _).trans hE); have HBN := Lib.hid (Nat.le_trans (HY1.out.alloc _).size hb); have HMO := Lib.hid (Nat.le_trans (HY1.out.alloc _).size hm); have HNT := Lib.hid hn; have HMP := Lib.hid hs; clear hb hm hn hs hn6 hE) | (go_at_call 46; refine Calls.mono (HSM.out V bn mo n _ HEV.out HBN.out HNT.out HMP.out) ?_; intro e V1 h1; obtain ⟨A, h1, ha, hn, hk1⟩ := h1; subst h1; have HA := Lib.hid ha; have HN1 := Lib.hid hn; have HE1 := Lib.hid (KeepT.below HEV.out hk1 (by simpa using HBN.out) HEV.out.size); clear ha hn hk1) | (go_at_call 47; refine Calls.mono (sticks_c W H nw cw nk ck aw ak HA.out hW hH _) ?_; intro e V2 h1; obtain ⟨h1, hE⟩ := h1; subst h1; have HE2 := Lib.hid (HE1.out.trans hE); clear hE) | fail)
  refine bodyPost_ret (by first | (simp [results, Tryz.results11, go_sem]; done) | (simp [results, Tryz.results11, go_sem]; rfl)) rfl ?_
  exact ⟨by rw [outL_stk (G := gp hv) rfl rfl]; rfl, HE2.out⟩
set_option maxRecDepth 100000 in
set_option maxHeartbeats 1000000 in
theorem small_ok (W H nw cw nk ck : Nat) (aw ak : Option Addr) (wn kn : List Nat) (hv : VP W H wn kn) (w : World) (hw : Reads w (.slice aw nw cw) (natI wn)) (hk : Reads w (.slice ak nk ck) (natI kn)) :
    Calls Tryz.prog 13 #[.agg #[.int .i64 (W : Int), .int .i64 (H : Int), .slice aw nw cw, .slice ak nk ck]] w fun e w' => ∃ u, e = .returned (.tuple #[u, .int .i64 0]) ∧ Reads w' u (natI ((List.range (W * H)).filter (smallB (gp hv) 64 wn (memL kn)))) ∧ Ext w w' := by
  have hW : 1 ≤ W ∧ W ≤ 8 := ⟨hv.w1, hv.w8⟩
  have hH : 1 ≤ H ∧ H ≤ 8 := ⟨hv.h1, hv.h8⟩
  have h0 : chkP W H (natI wn) (natI kn) = 0 := chkP_ok.2 ⟨W, H, wn, kn, ⟨rfl, rfl⟩, ⟨rfl, rfl⟩, hv⟩
  have HOP := Lib.hid (fun (X : World) (h : Ext w X) => openOk W H nw cw nk ck aw ak wn kn hv X (hw.ext h) (hk.ext h))
  have E0 := Lib.hid ((Ext.refl w).alloc (.cells #[.int .i64 (W : Int), .int .i64 (H : Int), .slice aw nw cw, .slice ak nk ck] 24))
  have HNN := Lib.hid (fun (X : World) (h : Ext w X) => newNet_c W H nw cw nk ck aw ak wn kn hW hH (gp hv) rfl rfl hv.pond X (hw.ext h) (hk.ext h))
  have HSM := Lib.hid (fun (V : World) (bn mo n : Nat) (rd : List Bool) (hE : Ext w V) (hb : w.heap.size ≤ bn) (hn : NetB V bn W H (.slice aw nw cw) (.slice ak nk ck) mo rd) (hm : SMap V mo n ((flowF (gp hv) 64 wn (memL kn)).map lkS)) => small_c W H nw cw nk ck aw ak wn kn hW hH (gp hv) rfl rfl hv.pond bn mo n _ rd V hn hm (fun Y hY => hw.ext (KeepT.below hE hY (by simpa using hb) hE.size)) (fun Y hY => hk.ext (KeepT.below hE hY (by simpa using hb) hE.size)))
  go_enter Tryz.func13, Tryz.ntmps13
  go_wp2_with (first | (go_at_call 44; refine Calls.mono (HOP.out _ E0.out) ?_; intro e Y1 h1; obtain ⟨h1, hE⟩ := h1; subst h1; have HY1 := Lib.hid (E0.out.trans hE); clear hE) | (go_at_call 45; refine Calls.mono (HNN.out _ (HY1.out.alloc _)) ?_; intro e V h1; obtain ⟨bn, mo, n, rd, h1, hb, hm, hn, hs, hn6, hE⟩ := h1; subst h1; have HEV := Lib.hid ((HY1.out.alloc _).trans hE); have HBN := Lib.hid (Nat.le_trans (HY1.out.alloc _).size hb); have HMO := Lib.hid (Nat.le_trans (HY1.out.alloc _).size hm); have HNT := Lib.hid hn; have HMP := Lib.hid hs; clear hb hm hn hs hn6 hE) | (go_at_call 46; refine Calls.mono (HSM.out V bn mo n _ HEV.out HBN.out HNT.out HMP.out) ?_; intro e V1 h1; obtain ⟨A, h1, ha, hn, hk1⟩ := h1; subst h1; have HA := Lib.hid ha; have HN1 := Lib.hid hn; have HE1 := Lib.hid (KeepT.below HEV.out hk1 (by simpa using HBN.out) HEV.out.size); clear ha hn hk1) | (go_at_call 49; refine Calls.mono (cells_c W H nw cw nk ck aw ak HA.out hW hH _) ?_; intro e V2 h1; obtain ⟨u, h1, ho, hE⟩ := h1; subst h1; have HO := Lib.hid ho; have HE2 := Lib.hid (HE1.out.trans hE); clear ho hE) | fail)
  refine bodyPost_ret (by first | (simp [results, Tryz.results13, go_sem]; done) | (simp [results, Tryz.results13, go_sem]; rfl)) rfl ?_
  exact ⟨u, rfl, HO.out.reads (by rw [natI_len]; exact Nat.le_trans (List.length_filter_le _ _) (by have := hv.n64; simp; omega)), HE2.out⟩
set_option maxRecDepth 100000 in
set_option maxHeartbeats 1000000 in
theorem large_ok (W H nw cw nk ck : Nat) (aw ak : Option Addr) (wn kn : List Nat) (hv : VP W H wn kn) (w : World) (hw : Reads w (.slice aw nw cw) (natI wn)) (hk : Reads w (.slice ak nk ck) (natI kn)) :
    Calls Tryz.prog 15 #[.agg #[.int .i64 (W : Int), .int .i64 (H : Int), .slice aw nw cw, .slice ak nk ck]] w fun e w' => ∃ u, e = .returned (.tuple #[u, .int .i64 0]) ∧ Reads w' u (natI ((List.range (W * H)).filter (largeB (gp hv) 64 wn (memL kn)))) ∧ Ext w w' := by
  have hW : 1 ≤ W ∧ W ≤ 8 := ⟨hv.w1, hv.w8⟩
  have hH : 1 ≤ H ∧ H ≤ 8 := ⟨hv.h1, hv.h8⟩
  have h0 : chkP W H (natI wn) (natI kn) = 0 := chkP_ok.2 ⟨W, H, wn, kn, ⟨rfl, rfl⟩, ⟨rfl, rfl⟩, hv⟩
  have HOP := Lib.hid (fun (X : World) (h : Ext w X) => openOk W H nw cw nk ck aw ak wn kn hv X (hw.ext h) (hk.ext h))
  have E0 := Lib.hid ((Ext.refl w).alloc (.cells #[.int .i64 (W : Int), .int .i64 (H : Int), .slice aw nw cw, .slice ak nk ck] 24))
  have HNN := Lib.hid (fun (X : World) (h : Ext w X) => newNet_c W H nw cw nk ck aw ak wn kn hW hH (gp hv) rfl rfl hv.pond X (hw.ext h) (hk.ext h))
  have HLG := Lib.hid (fun (V : World) (bn mo n : Nat) (rd : List Bool) (hE : Ext w V) (hb : w.heap.size ≤ bn) (hn : NetB V bn W H (.slice aw nw cw) (.slice ak nk ck) mo rd) (hm : SMap V mo n ((flowF (gp hv) 64 wn (memL kn)).map lkS)) => large_c W H nw cw nk ck aw ak kn wn hW hH (gp hv) rfl rfl hv.pond bn mo n _ rd V hn hm (fun Y hY => hk.ext (KeepT.below hE hY (by simpa using hb) hE.size)))
  go_enter Tryz.func15, Tryz.ntmps15
  go_wp2_with (first | (go_at_call 44; refine Calls.mono (HOP.out _ E0.out) ?_; intro e Y1 h1; obtain ⟨h1, hE⟩ := h1; subst h1; have HY1 := Lib.hid (E0.out.trans hE); clear hE) | (go_at_call 45; refine Calls.mono (HNN.out _ (HY1.out.alloc _)) ?_; intro e V h1; obtain ⟨bn, mo, n, rd, h1, hb, hm, hn, hs, hn6, hE⟩ := h1; subst h1; have HEV := Lib.hid ((HY1.out.alloc _).trans hE); have HBN := Lib.hid (Nat.le_trans (HY1.out.alloc _).size hb); have HMO := Lib.hid (Nat.le_trans (HY1.out.alloc _).size hm); have HNT := Lib.hid hn; have HMP := Lib.hid hs; clear hb hm hn hs hn6 hE) | (go_at_call 51; refine Calls.mono (HLG.out V bn mo n _ HEV.out HBN.out HNT.out HMP.out) ?_; intro e V1 h1; obtain ⟨A, rd2, h1, ha, hn, hk1⟩ := h1; subst h1; have HA := Lib.hid ha; have HN1 := Lib.hid hn; have HE1 := Lib.hid (KeepT.below HEV.out hk1 (by simpa using HBN.out) HEV.out.size); clear ha hn hk1) | (go_at_call 49; refine Calls.mono (cells_c W H nw cw nk ck aw ak HA.out hW hH _) ?_; intro e V2 h1; obtain ⟨u, h1, ho, hE⟩ := h1; subst h1; have HO := Lib.hid ho; have HE2 := Lib.hid (HE1.out.trans hE); clear ho hE) | fail)
  refine bodyPost_ret (by first | (simp [results, Tryz.results15, go_sem]; done) | (simp [results, Tryz.results15, go_sem]; rfl)) rfl ?_
  have hc : cellsR (W * H) (lrg (gp hv) (memL kn) (flowF (gp hv) 64 wn (memL kn)) (W * H)) = (List.range (W * H)).filter (largeB (gp hv) 64 wn (memL kn)) := List.filter_congr fun x hx => by rw [lrg_is hv.n64]; rfl
  have ho := HO.out
  rw [hc] at ho
  exact ⟨u, rfl, ho.reads (by rw [natI_len]; exact Nat.le_trans (List.length_filter_le _ _) (by have := hv.n64; simp; omega)), HE2.out⟩
end Go.Proofs.YtppjnpempgpkaaaGreat
namespace Go.Proofs.YtppjnpempgpkaaaGreat
open Go.RowKit Go.Shelf
set_option linter.unusedVariables false
set_option linter.unusedSimpArgs false
attribute [local go_sem] Oper.semAt_some

theorem lst_one {n : Nat} {x : Int} : lstB n [x] = true ↔ 0 ≤ x ∧ x < (n : Int) := by
  unfold lstB inn upB upTo1
  simp [List.range_succ]
  omega
set_option maxRecDepth 100000 in
set_option maxHeartbeats 1000000 in
theorem kind_bad (W H nw cw nk ck : Nat) (aw ak : Option Addr) (wn kn : List Nat) (hv : VP W H wn kn) (cell : Int) (w : World) (hw : Reads w (.slice aw nw cw) (natI wn)) (hk : Reads w (.slice ak nk ck) (natI kn)) (hc : lstB (W * H) [cell] = false) :
    Calls Tryz.prog 17 #[.agg #[.int .i64 (W : Int), .int .i64 (H : Int), .slice aw nw cw, .slice ak nk ck], .int .i64 cell] w fun e w' => e = .returned (.tuple #[.int .i64 0, .int .i64 2]) ∧ Ext w w' := by
  have hW : 1 ≤ W ∧ W ≤ 8 := ⟨hv.w1, hv.w8⟩
  have hH : 1 ≤ H ∧ H ≤ 8 := ⟨hv.h1, hv.h8⟩
  have h0 : chkP W H (natI wn) (natI kn) = 0 := chkP_ok.2 ⟨W, H, wn, kn, ⟨rfl, rfl⟩, ⟨rfl, rfl⟩, hv⟩
  have HOP := Lib.hid (fun (X : World) (h : Ext w X) => openOk W H nw cw nk ck aw ak wn kn hv X (hw.ext h) (hk.ext h))
  have E0 := Lib.hid ((Ext.refl w).alloc (.cells #[.int .i64 (W : Int), .int .i64 (H : Int), .slice aw nw cw, .slice ak nk ck] 24))
  go_enter Tryz.func17, Tryz.ntmps17
  go_wp2_with (first | (go_at_call 44; refine Calls.mono (HOP.out _ E0.out) ?_; intro e Y1 h1; obtain ⟨h1, hE⟩ := h1; subst h1; have HY1 := Lib.hid (E0.out.trans hE); clear hE) | (go_at_call 52; refine Calls.mono (lists_c W H nw cw nk ck aw ak _ [cell] _ hW.2 hH.2 (Reads.new _ [cell] 3 _ (by simp) (by simp) _ rfl 1 1 rfl)) ?_; intro e V0 h1; obtain ⟨h1, hE⟩ := h1; subst h1; have HB6 := Lib.hid (block_ext (((Ext.refl _).alloc _).trans hE) (heap_alloc_new Y1 (.cells #[.int .i64 (W : Int), .int .i64 (H : Int), .slice aw nw cw, .slice ak nk ck] 72))); have HV0 := Lib.hid (((HY1.out.alloc _).alloc _).trans hE); clear hE) | fail)
  refine bodyPost_ret (by first | (simp [results, Tryz.results17, go_sem]; done) | (simp [results, Tryz.results17, go_sem]; rfl)) rfl ?_
  exact ⟨rfl, HV0.out⟩
def kindK (sb lb : Bool) : Int := if sb = true then 2 else if lb = true then 1 else 0
set_option maxRecDepth 100000 in
set_option maxHeartbeats 1000000 in
theorem kind_ok (W H nw cw nk ck : Nat) (aw ak : Option Addr) (wn kn : List Nat) (hv : VP W H wn kn) (c : Nat) (hc : c < W * H) (w : World) (hw : Reads w (.slice aw nw cw) (natI wn)) (hk : Reads w (.slice ak nk ck) (natI kn)) :
    Calls Tryz.prog 17 #[.agg #[.int .i64 (W : Int), .int .i64 (H : Int), .slice aw nw cw, .slice ak nk ck], .int .i64 (c : Int)] w fun e w' => e = .returned (.tuple #[.int .i64 (kindK (smallB (gp hv) 64 wn (memL kn) c) (largeB (gp hv) 64 wn (memL kn) c)), .int .i64 0]) ∧ Ext w w' := by
  have hW : 1 ≤ W ∧ W ≤ 8 := ⟨hv.w1, hv.w8⟩
  have hH : 1 ≤ H ∧ H ≤ 8 := ⟨hv.h1, hv.h8⟩
  have h0 : chkP W H (natI wn) (natI kn) = 0 := chkP_ok.2 ⟨W, H, wn, kn, ⟨rfl, rfl⟩, ⟨rfl, rfl⟩, hv⟩
  have HOP := Lib.hid (fun (X : World) (h : Ext w X) => openOk W H nw cw nk ck aw ak wn kn hv X (hw.ext h) (hk.ext h))
  have E0 := Lib.hid ((Ext.refl w).alloc (.cells #[.int .i64 (W : Int), .int .i64 (H : Int), .slice aw nw cw, .slice ak nk ck] 24))
  have HNN := Lib.hid (fun (X : World) (h : Ext w X) => newNet_c W H nw cw nk ck aw ak wn kn hW hH (gp hv) rfl rfl hv.pond X (hw.ext h) (hk.ext h))
  have HSM := Lib.hid (fun (V : World) (bn mo n : Nat) (rd : List Bool) (hE : Ext w V) (hb : w.heap.size ≤ bn) (hn : NetB V bn W H (.slice aw nw cw) (.slice ak nk ck) mo rd) (hm : SMap V mo n ((flowF (gp hv) 64 wn (memL kn)).map lkS)) => small_c W H nw cw nk ck aw ak wn kn hW hH (gp hv) rfl rfl hv.pond bn mo n _ rd V hn hm (fun Y hY => hw.ext (KeepT.below hE hY (by simpa using hb) hE.size)) (fun Y hY => hk.ext (KeepT.below hE hY (by simpa using hb) hE.size)))
  have HLG := Lib.hid (fun (V : World) (bn mo n : Nat) (rd : List Bool) (hE : Ext w V) (hb : w.heap.size ≤ bn) (hn : NetB V bn W H (.slice aw nw cw) (.slice ak nk ck) mo rd) (hm : SMap V mo n ((flowF (gp hv) 64 wn (memL kn)).map lkS)) => large_c W H nw cw nk ck aw ak kn wn hW hH (gp hv) rfl rfl hv.pond bn mo n _ rd V hn hm (fun Y hY => hk.ext (KeepT.below hE hY (by simpa using hb) hE.size)))
  obtain ⟨cell, hcell⟩ : ∃ cell : Int, cell = (c : Int) := ⟨_, rfl⟩
  have hc64 : -1 ≤ cell ∧ cell < 64 := by have := hv.n64; omega
  have hl1 : lstB (W * H) [cell] = true := lst_one.2 (by omega)
  obtain ⟨sb, hsb⟩ : ∃ sb, sb = smallB (gp hv) 64 wn (memL kn) c := ⟨_, rfl⟩
  obtain ⟨lb, hlb⟩ : ∃ lb, lb = largeB (gp hv) 64 wn (memL kn) c := ⟨_, rfl⟩
  have HS1 := Lib.hid (show hld (find1 (gp hv) 64 (memL kn) (fre (flowF (gp hv) 64 wn (memL kn))) wn).1.rd cell = sb from by rw [hcell, hld_nat, hsb]; rfl)
  have HL1 := Lib.hid (show hld (lrg (gp hv) (memL kn) (flowF (gp hv) 64 wn (memL kn)) (W * H)) cell = lb from by rw [hcell, hld_nat, hlb, lrg_is hv.n64]; rfl)
  rw [← hsb, ← hlb, ← hcell]
  clear hsb hlb hcell hc
  have HLL := Lib.hid hl1
  clear hl1
  cases sb <;> cases lb
  all_goals
    go_enter Tryz.func17, Tryz.ntmps17
    go_wp2_with (first | (go_at_call 44; refine Calls.mono (HOP.out _ E0.out) ?_; intro e Y1 h1; obtain ⟨h1, hE⟩ := h1; subst h1; have HY1 := Lib.hid (E0.out.trans hE); clear hE) | (go_at_call 52; refine Calls.mono (lists_c W H nw cw nk ck aw ak _ [cell] _ hW.2 hH.2 (Reads.new _ [cell] 3 _ (by simp) (by simp) _ rfl 1 1 rfl)) ?_; intro e V0 h1; obtain ⟨h1, hE⟩ := h1; rw [HLL.out] at h1; subst h1; have HB6 := Lib.hid (block_ext (((Ext.refl _).alloc _).trans hE) (heap_alloc_new Y1 (.cells #[.int .i64 (W : Int), .int .i64 (H : Int), .slice aw nw cw, .slice ak nk ck] 72))); have HV0 := Lib.hid (((HY1.out.alloc _).alloc _).trans hE); clear hE; obtain ⟨p0, p1, p2, p3⟩ := cells4 HB6.out) | (go_at_call 45; refine Calls.mono (HNN.out _ HV0.out) ?_; intro e V h1; obtain ⟨bn, mo, n, rd, h1, hb, hm, hn, hs, hn6, hE⟩ := h1; subst h1; have HEV := Lib.hid (HV0.out.trans hE); have HBN := Lib.hid (Nat.le_trans HV0.out.size hb); have HMO := Lib.hid (Nat.le_trans HV0.out.size hm); have HNT := Lib.hid hn; have HMP := Lib.hid hs; clear hb hm hn hs hn6 hE; clear p0 p1 p2 p3; have hmb := mo_ne HNT.out HMP.out; have hmx := HMP.out.lt) | (go_at_call 46; refine Calls.mono (HSM.out V bn mo n _ HEV.out HBN.out HNT.out HMP.out) ?_; intro e V1 h1; obtain ⟨A, h1, ha, hn, hk1⟩ := h1; subst h1; have HA := Lib.hid ha; have HN1 := Lib.hid hn; have HM1 := Lib.hid (HMP.out.same (hk1.low hmx (by simpa using fun e => hmb e.symm) hmx)); have HE1 := Lib.hid (KeepT.below HEV.out hk1 (by simpa using HBN.out) HEV.out.size); clear ha hn hk1) | (go_at_call 53; refine Calls.mono (holds_c HA2.out cell hc64 _) ?_; intro e V4 h1; obtain ⟨h1, hE⟩ := h1; rw [HL1.out] at h1; subst h1; have HE4 := Lib.hid (HE3.out.trans hE); clear hE) | (go_at_call 53; refine Calls.mono (holds_c HA.out cell hc64 _) ?_; intro e V2 h1; obtain ⟨h1, hE⟩ := h1; rw [HS1.out] at h1; subst h1; have HE2 := Lib.hid (HE1.out.trans hE); have HN2 := Lib.hid (HN1.out.ext hE); have HM2 := Lib.hid (HM1.out.ext hE); clear hE) | (go_at_call 51; refine Calls.mono (HLG.out V2 bn mo n _ HE2.out HBN.out HN2.out HM2.out) ?_; intro e V3 h1; obtain ⟨A, rd2, h1, ha, hn, hk1⟩ := h1; subst h1; have HA2 := Lib.hid ha; have HN3 := Lib.hid hn; have HE3 := Lib.hid (KeepT.below HE2.out hk1 (by simpa using HBN.out) HE2.out.size); clear ha hn hk1) | fail)
    refine bodyPost_ret (by first | (simp [results, Tryz.results17, go_sem]; done) | (simp [results, Tryz.results17, go_sem]; rfl)) rfl ?_
    first | exact ⟨rfl, HE4.out⟩ | exact ⟨rfl, HE2.out⟩
end Go.Proofs.YtppjnpempgpkaaaGreat
namespace Go.Proofs.YtppjnpempgpkaaaGreat
open Go.RowKit Go.Shelf
set_option linter.unusedVariables false
set_option linter.unusedSimpArgs false
attribute [local go_sem] Oper.semAt_some

def encB (wn kn ns : List Nat) : Bool := wn.all (memL ns) && !kn.any (memL ns)
theorem enc_is {wn kn ns : List Nat} (h : ∀ x ∈ ns, x < 64) : encR (natI wn) (natI kn) (mkR ns) = encB wn kn ns := by
  have e : ∀ c : Nat, hld (mkR ns) (c : Int) = memL ns c := fun c => by rw [hld_nat, mkR_is h]; rfl
  unfold encR encB natI
  rw [List.all_map, List.any_map]
  congr 1
  · exact List.all_congr rfl fun x => e x
  · congr 1
    exact List.any_congr rfl fun x => e x
theorem stk_is {W H : Nat} {wn kn : List Nat} (hv : VP W H wn kn) {ns : List Nat} (h : ∀ x ∈ ns, x < 64) : outL (mkR ns) W H (cellsR (W * H) (mkR ns)) = stk (gp hv) (memL ns) := by
  rw [outL_stk (G := gp hv) rfl rfl]
  exact stk_congr _ fun x _ => by rw [mkR_is h]; rfl
set_option maxRecDepth 100000 in
set_option maxHeartbeats 1000000 in
theorem sticks_bad (W H nw cw nk ck : Nat) (aw ak : Option Addr) (wn kn : List Nat) (hv : VP W H wn kn) (v : Value) (w : World) (hw : Reads w (.slice aw nw cw) (natI wn)) (hk : Reads w (.slice ak nk ck) (natI kn)) (xs : List Int) (hx : Reads w v xs) (hc : lstB (W * H) xs = false) :
    Calls Tryz.prog 27 #[.agg #[.int .i64 (W : Int), .int .i64 (H : Int), .slice aw nw cw, .slice ak nk ck], v] w fun e w' => e = .returned (.tuple #[.int .i64 0, .int .i64 2]) ∧ Ext w w' := by
  have hW : 1 ≤ W ∧ W ≤ 8 := ⟨hv.w1, hv.w8⟩
  have hH : 1 ≤ H ∧ H ≤ 8 := ⟨hv.h1, hv.h8⟩
  have h0 : chkP W H (natI wn) (natI kn) = 0 := chkP_ok.2 ⟨W, H, wn, kn, ⟨rfl, rfl⟩, ⟨rfl, rfl⟩, hv⟩
  have HOP := Lib.hid (fun (X : World) (h : Ext w X) => openOk W H nw cw nk ck aw ak wn kn hv X (hw.ext h) (hk.ext h))
  have E0 := Lib.hid ((Ext.refl w).alloc (.cells #[.int .i64 (W : Int), .int .i64 (H : Int), .slice aw nw cw, .slice ak nk ck] 24))
  have HLL := Lib.hid hc
  clear hc
  go_enter Tryz.func27, Tryz.ntmps27
  go_wp2_with (first | (go_at_call 44; refine Calls.mono (HOP.out _ E0.out) ?_; intro e Y1 h1; obtain ⟨h1, hE⟩ := h1; subst h1; have HY1 := Lib.hid (E0.out.trans hE); clear hE) | (go_at_call 52; refine Calls.mono (lists_c W H nw cw nk ck aw ak v xs _ hW.2 hH.2 (hx.ext (HY1.out.alloc _))) ?_; intro e V0 h1; obtain ⟨h1, hE⟩ := h1; rw [HLL.out] at h1; subst h1; have HB6 := Lib.hid (block_ext hE (heap_alloc_new Y1 (.cells #[.int .i64 (W : Int), .int .i64 (H : Int), .slice aw nw cw, .slice ak nk ck] 72))); have HV0 := Lib.hid ((HY1.out.alloc _).trans hE); clear hE; obtain ⟨p0, p1, p2, p3⟩ := cells4 HB6.out; clear p0 p1 p2 p3) | fail)
  refine bodyPost_ret (by first | (simp [results, Tryz.results27, go_sem]; done) | (simp [results, Tryz.results27, go_sem]; rfl)) rfl ?_
  exact ⟨rfl, HV0.out⟩
set_option maxRecDepth 100000 in
set_option maxHeartbeats 1000000 in
theorem sticks_ok (W H nw cw nk ck : Nat) (aw ak : Option Addr) (wn kn : List Nat) (hv : VP W H wn kn) (v : Value) (w : World) (hw : Reads w (.slice aw nw cw) (natI wn)) (hk : Reads w (.slice ak nk ck) (natI kn)) (ns : List Nat) (hl : Lst (W * H) ns) (hx : Reads w v (natI ns)) :
    Calls Tryz.prog 27 #[.agg #[.int .i64 (W : Int), .int .i64 (H : Int), .slice aw nw cw, .slice ak nk ck], v] w fun e w' => e = .returned (.tuple #[.int .i64 (if encB wn kn ns = true then (stk (gp hv) (memL ns) : Int) else 0), .int .i64 (if encB wn kn ns = true then 0 else 19)]) ∧ Ext w w' := by
  have hW : 1 ≤ W ∧ W ≤ 8 := ⟨hv.w1, hv.w8⟩
  have hH : 1 ≤ H ∧ H ≤ 8 := ⟨hv.h1, hv.h8⟩
  have h0 : chkP W H (natI wn) (natI kn) = 0 := chkP_ok.2 ⟨W, H, wn, kn, ⟨rfl, rfl⟩, ⟨rfl, rfl⟩, hv⟩
  have HOP := Lib.hid (fun (X : World) (h : Ext w X) => openOk W H nw cw nk ck aw ak wn kn hv X (hw.ext h) (hk.ext h))
  have E0 := Lib.hid ((Ext.refl w).alloc (.cells #[.int .i64 (W : Int), .int .i64 (H : Int), .slice aw nw cw, .slice ak nk ck] 24))
  have hn64 : ∀ x ∈ ns, x < 64 := fun x hx => Nat.lt_of_lt_of_le (hl.lt x hx) hv.n64
  obtain ⟨xs, hxs⟩ : ∃ xs, xs = natI ns := ⟨_, rfl⟩
  have HLL := Lib.hid (show lstB (W * H) xs = true from lstB_iff.2 ⟨ns, hxs, hl⟩)
  have HXS := Lib.hid hx
  rw [← hxs] at hx
  have HWR := Lib.hid hw; have HKR := Lib.hid hk
  have hwx : ∀ x ∈ natI wn, -1 ≤ x ∧ x < 64 := fun x hx => by
    obtain ⟨y, hy, rfl⟩ := List.mem_map.1 hx
    have := hv.want.lt y hy; have := hv.n64; omega
  have hkx : ∀ x ∈ natI kn, -1 ≤ x ∧ x < 64 := fun x hx => by
    obtain ⟨y, hy, rfl⟩ := List.mem_map.1 hx
    have := hv.keep.lt y hy; have := hv.n64; omega
  have HST := Lib.hid (stk_is hv hn64)
  obtain ⟨eb, heb⟩ : ∃ eb, eb = encB wn kn ns := ⟨_, rfl⟩
  rw [← heb]
  have HEB := Lib.hid (show encR (natI wn) (natI kn) (mkR ns) = eb from by rw [heb]; exact enc_is hn64)
  clear hxs heb hl
  cases eb
  all_goals
    go_enter Tryz.func27, Tryz.ntmps27
    go_wp2_with (first | (go_at_call 44; refine Calls.mono (HOP.out _ E0.out) ?_; intro e Y1 h1; obtain ⟨h1, hE⟩ := h1; subst h1; have HY1 := Lib.hid (E0.out.trans hE); clear hE) | (go_at_call 52; refine Calls.mono (lists_c W H nw cw nk ck aw ak v xs _ hW.2 hH.2 (hx.ext (HY1.out.alloc _))) ?_; intro e V0 h1; obtain ⟨h1, hE⟩ := h1; rw [HLL.out] at h1; subst h1; have HB6 := Lib.hid (block_ext hE (heap_alloc_new Y1 (.cells #[.int .i64 (W : Int), .int .i64 (H : Int), .slice aw nw cw, .slice ak nk ck] 72))); have HV0 := Lib.hid ((HY1.out.alloc _).trans hE); clear hE; obtain ⟨p0, p1, p2, p3⟩ := cells4 HB6.out) | (go_at_call 64; refine Calls.mono (newRaft_c W H nw cw nk ck aw ak v ns _ (HXS.out.ext HV0.out) hn64) ?_; intro e V1 h1; obtain ⟨A, h1, ha, hE⟩ := h1; subst h1; have HA := Lib.hid ha; have HV1 := Lib.hid (HV0.out.trans hE); clear ha hE p0 p1 p2 p3) | (refine wp_newRow rfl rfl 78 8 (.tmp 23) rfl rfl rfl alloc_raft A HA.out.info (by rw [HA.out.size]; rfl) HA.out.one rfl rfl ?_; intro W2 hb2 hE2 hz2; have HB2 := Lib.hid hb2; have HV2 := Lib.hid (HV1.out.trans hE2); clear hb2 hE2 hz2) | (refine wpList_load_row rfl 78 _ rfl _ rfl _ _ _ _ HB3.out Tryz.underlying78 rfl HA.out.info ?_) | (refine wpList_load_row rfl 78 _ rfl _ rfl _ _ _ _ HB2.out Tryz.underlying78 rfl HA.out.info ?_) | (go_at_call 65; refine Calls.mono (encloses_c W H nw cw nk ck aw ak HA.out (natI wn) (natI kn) _ (HWR.out.ext HV2.out) (HKR.out.ext HV2.out) hwx hkx) ?_; intro e V3 h1; obtain ⟨h1, hE⟩ := h1; rw [HEB.out] at h1; subst h1; have HB3 := Lib.hid (block_ext hE HB2.out); have HV3 := Lib.hid (HV2.out.trans hE); clear hE) | (go_at_call 47; refine Calls.mono (sticks_c W H nw cw nk ck aw ak HA.out hW hH _) ?_; intro e V4 h1; obtain ⟨h1, hE⟩ := h1; subst h1; have HV4 := Lib.hid (HV3.out.trans hE); clear hE) | fail)
    refine bodyPost_ret (by first | (simp [results, Tryz.results27, go_sem]; done) | (simp [results, Tryz.results27, go_sem]; rfl)) rfl ?_
    first | exact ⟨by rw [HST.out], HV4.out⟩ | exact ⟨rfl, HV3.out⟩

/-- Ways as values. -/
def inI (y : WY) : WI := (natI y.1, oI y.2)
theorem toW_inI {y : WY} (h : ∀ k, y.2 = some k → k < 4) : toW (inI y) = y := by
  obtain ⟨ws, o⟩ := y
  unfold toW inI
  dsimp only
  refine Prod.ext ?_ ?_
  · show (natI ws).map Int.toNat = ws
    unfold natI
    rw [List.map_map]
    exact (List.map_congr_left fun x _ => by simp).trans (List.map_id _)
  · cases o with
    | none => simp [oI]
    | some k => simp [oI]
theorem WaysO.readsW {X : World} {base : Nat} {v : Value} {ps : List (Value × Int)} {L : List WY} (h : WaysO X base v ps L) (hl : L.length ≤ 5000) : ReadsW X v (L.map inI) := by
  by_cases h0 : L.length = 0
  · obtain rfl : L = [] := List.eq_nil_of_length_eq_zero h0
    obtain ⟨_, ⟨rfl, -⟩ | ⟨g, cap, cur, rfl, h1, h2, h3, h4, h5, h6⟩⟩ := h.own
    · exact ⟨by simp, none, 0, rfl, by simp, .inl rfl⟩
    · exact ⟨by simp, _, cap, rfl, ⟨by simp, by unfold maxLen at h4; omega⟩, .inl rfl⟩
  · obtain ⟨_, ⟨-, h7⟩ | ⟨g, cap, cur, e1, h1, h2, h3, h4, h5, h6⟩⟩ := h.own
    · exact absurd h7 h0
    · refine ⟨by rw [List.length_map]; exact hl, some ⟨g, 0, none⟩, cap, by rw [List.length_map]; exact e1, ⟨by rw [List.length_map]; exact h3, by unfold maxLen at h4; omega⟩, .inr ⟨g, 0, rfl, fun i x hx => ?_⟩⟩
      rw [List.getElem?_map] at hx
      obtain ⟨y, hy, rfl⟩ := Option.map_eq_some_iff.1 hx
      obtain ⟨g', cap', s, w, e2, c0, c1, hw, hr⟩ := h.at (i := i) (List.getElem?_eq_some_iff.1 hy).1
      rw [hy] at hw
      cases hw
      rw [e1] at e2
      injection e2 with e3 e4 e5
      cases e3
      rw [Nat.zero_add]
      exact ⟨s, c0, hr.reads, c1⟩
set_option maxRecDepth 100000 in
set_option maxHeartbeats 1000000 in
theorem ways_ok (W H nw cw nk ck : Nat) (aw ak : Option Addr) (wn kn : List Nat) (hv : VP W H wn kn) (w : World) (hw : Reads w (.slice aw nw cw) (natI wn)) (hk : Reads w (.slice ak nk ck) (natI kn)) :
    Calls Tryz.prog 23 #[.agg #[.int .i64 (W : Int), .int .i64 (H : Int), .slice aw nw cw, .slice ak nk ck]] w fun e w' => ∃ u, e = .returned (.tuple #[u, .int .i64 0]) ∧ ReadsW w' u ((takeAll (gp hv) 64 (memL kn) wn (flowF (gp hv) 64 wn (memL kn))).2.map inI) ∧ Ext w w' := by
  have hW : 1 ≤ W ∧ W ≤ 8 := ⟨hv.w1, hv.w8⟩
  have hH : 1 ≤ H ∧ H ≤ 8 := ⟨hv.h1, hv.h8⟩
  have h0 : chkP W H (natI wn) (natI kn) = 0 := chkP_ok.2 ⟨W, H, wn, kn, ⟨rfl, rfl⟩, ⟨rfl, rfl⟩, hv⟩
  have HOP := Lib.hid (fun (X : World) (h : Ext w X) => openOk W H nw cw nk ck aw ak wn kn hv X (hw.ext h) (hk.ext h))
  have E0 := Lib.hid ((Ext.refl w).alloc (.cells #[.int .i64 (W : Int), .int .i64 (H : Int), .slice aw nw cw, .slice ak nk ck] 24))
  have HNN := Lib.hid (fun (X : World) (h : Ext w X) => newNet_c W H nw cw nk ck aw ak wn kn hW hH (gp hv) rfl rfl hv.pond X (hw.ext h) (hk.ext h))
  obtain ⟨b0, hF, -⟩ := best_is hv.pond
  have hwl : (takeAll (gp hv) 64 (memL kn) wn (flowF (gp hv) 64 wn (memL kn))).2.length ≤ 256 := by
    have h1 := (ways_is hv.pond hF).1
    have h2 := hF.le (enc_want hv.pond)
    have h3 := stk_le (gp hv) (wantB wn)
    have h4 : (gp hv).n ≤ 64 := hv.n64
    omega
  have HWL := Lib.hid hwl
  have HWY := Lib.hid (fun (V : World) (bn mo n : Nat) (rd : List Bool) (hE : Ext w V) (hb : w.heap.size ≤ bn) (hb2 : w.heap.size ≤ mo) (hn : NetB V bn W H (.slice aw nw cw) (.slice ak nk ck) mo rd) (hm : SMap V mo n ((flowF (gp hv) 64 wn (memL kn)).map lkS)) => ways_c W H nw cw nk ck aw ak wn kn hW hH (gp hv) rfl rfl hv.pond bn mo n _ b0 hF rd V hn hm (fun Y hY => hw.ext (KeepT.below hE hY (by simpa using ⟨hb, hb2⟩) hE.size)) (fun Y hY => hk.ext (KeepT.below hE hY (by simpa using ⟨hb, hb2⟩) hE.size)))
  clear hF hwl
  go_enter Tryz.func23, Tryz.ntmps23
  go_wp2_with (first | (go_at_call 44; refine Calls.mono (HOP.out _ E0.out) ?_; intro e Y1 h1; obtain ⟨h1, hE⟩ := h1; subst h1; have HY1 := Lib.hid (E0.out.trans hE); clear hE) | (go_at_call 45; refine Calls.mono (HNN.out _ (HY1.out.alloc _)) ?_; intro e V h1; obtain ⟨bn, mo, n, rd, h1, hb, hm, hn, hs, hn6, hE⟩ := h1; subst h1; have HEV := Lib.hid ((HY1.out.alloc _).trans hE); have HBN := Lib.hid (Nat.le_trans (HY1.out.alloc _).size hb); have HMO := Lib.hid (Nat.le_trans (HY1.out.alloc _).size hm); have HNT := Lib.hid hn; have HMP := Lib.hid hs; clear hb hm hn hs hn6 hE) | (go_at_call 56; refine Calls.mono (HWY.out V bn mo n _ HEV.out HBN.out HMO.out HNT.out HMP.out) ?_; intro e V1 h1; obtain ⟨u, ps, h1, ho, hk1⟩ := h1; subst h1; have HO := Lib.hid ho; have HE1 := Lib.hid (KeepT.below HEV.out hk1 (by simpa using ⟨HBN.out, HMO.out⟩) HEV.out.size); clear ho hk1) | fail)
  refine bodyPost_ret (by first | (simp [results, Tryz.results23, go_sem]; done) | (simp [results, Tryz.results23, go_sem]; rfl)) rfl ?_
  exact ⟨u, rfl, HO.out.readsW (Nat.le_trans HWL.out (by omega)), HE1.out⟩
theorem wok_of {W H : Nat} (hW : W ≤ 8) (hH : H ≤ 8) {wl kl : List Int} {x : WI} (h1 : longB x = true) (h2 : cellsB (W * H) x = true) (h3 : wayB W H wl kl x = true) : WOk W H x := by
  obtain ⟨e1, e2, e3, e4⟩ := toW_cells h2
  unfold longB at h1
  rw [Bool.and_eq_true, decide_eq_true_iff, decide_eq_true_iff, e1, natI_len] at h1
  refine ⟨e1, e3, fun h => by rw [h] at h1; simp at h1, e2, ?_, e4, h1.2⟩
  unfold wayB at h3
  rw [Bool.and_eq_true, e1, natI_len] at h3
  exact stepB_nbs hW hH e2 h3.1
set_option maxRecDepth 100000 in
set_option maxHeartbeats 2000000 in
theorem checkWays_ok (W H nw cw nk ck : Nat) (aw ak : Option Addr) (wn kn : List Nat) (hv : VP W H wn kn) (v : Value) (w : World) (hw : Reads w (.slice aw nw cw) (natI wn)) (hk : Reads w (.slice ak nk ck) (natI kn)) (ls : List WI) (hr : ReadsW w v ls) (h4k : ls.length ≤ 4000) :
    Calls Tryz.prog 24 #[.agg #[.int .i64 (W : Int), .int .i64 (H : Int), .slice aw nw cw, .slice ak nk ck], v] w fun e w' => e = .returned (.tuple #[.int .i64 (if chkW (gp hv) W H (natI wn) (natI kn) ls = 0 then (ls.length : Int) else 0), .int .i64 (chkW (gp hv) W H (natI wn) (natI kn) ls)]) ∧ Ext w w' := by
  have hW : 1 ≤ W ∧ W ≤ 8 := ⟨hv.w1, hv.w8⟩
  have hH : 1 ≤ H ∧ H ≤ 8 := ⟨hv.h1, hv.h8⟩
  have h0 : chkP W H (natI wn) (natI kn) = 0 := chkP_ok.2 ⟨W, H, wn, kn, ⟨rfl, rfl⟩, ⟨rfl, rfl⟩, hv⟩
  have HOP := Lib.hid (fun (X : World) (h : Ext w X) => openOk W H nw cw nk ck aw ak wn kn hv X (hw.ext h) (hk.ext h))
  have E0 := Lib.hid ((Ext.refl w).alloc (.cells #[.int .i64 (W : Int), .int .i64 (H : Int), .slice aw nw cw, .slice ak nk ck] 24))
  have HR := Lib.hid hr; have HWR := Lib.hid hw; have HKR := Lib.hid hk
  obtain ⟨hl5, av, capv, rfl⟩ := hr.shape
  obtain ⟨N, hN⟩ : ∃ N, N = ls.length := ⟨_, rfl⟩
  rw [← hN] at HR ⊢ h4k
  have hN63 : N ≤ 9223372036854775807 := by omega
  have HNE := Lib.hid hN
  obtain ⟨rs, hrs⟩ : ∃ rs, rs = chkW (gp hv) W H (natI wn) (natI kn) ls := ⟨_, rfl⟩
  rw [← hrs]
  have HRS := Lib.hid hrs
  obtain ⟨rN, hrN⟩ : ∃ rN : Int, rN = if rs = 0 then (N : Int) else 0 := ⟨_, rfl⟩
  rw [← hrN]
  have HRN := Lib.hid hrN
  clear hrN
  unfold chkW at hrs
  rw [← hN] at hrs
  have HLO := Lib.hid (fun (X : World) (h : Ext w X) => every_ways 58 (enters_of Tryz.func58 (by kernel_rfl) rfl) longB _ ls X (HR.out.ext h) (fun Y x s hY hx hr => isLong_c s x Y hr))
  have HCE := Lib.hid (fun (X : World) (h : Ext w X) => every_waysR 59 (.agg #[.int .i64 (W : Int), .int .i64 (H : Int), .slice aw nw cw, .slice ak nk ck]) (enters_of Tryz.func59 (by kernel_rfl) rfl) (cellsB (W * H)) _ ls X (HR.out.ext h) (fun Y x s hY hx hr => hasCells_c W H nw cw nk ck aw ak hW hH s x Y hr))
  obtain ⟨lb, hlb⟩ : ∃ lb, lb = ls.all longB := ⟨_, rfl⟩
  obtain ⟨cb, hcb⟩ : ∃ cb, cb = ls.all (cellsB (W * H)) := ⟨_, rfl⟩
  obtain ⟨wb, hwb⟩ : ∃ wb, wb = ls.all (wayB W H (natI wn) (natI kn)) := ⟨_, rfl⟩
  obtain ⟨ab, hab⟩ : ∃ ab, ab = apB (gp hv) ls := ⟨_, rfl⟩
  have HWA := Lib.hid (show lb = true → cb = true → ∀ (X : World), Ext w X → Calls Tryz.prog 57 #[.slice av N capv, .func (.func 60) #[.agg #[.int .i64 (W : Int), .int .i64 (H : Int), .slice aw nw cw, .slice ak nk ck]] #[]] X fun e w' => e = .returned (.bool wb) ∧ Ext X w' from fun h1 h2 X h => by
    rw [hwb]
    refine every_waysR 60 (.agg #[.int .i64 (W : Int), .int .i64 (H : Int), .slice aw nw cw, .slice ak nk ck]) (enters_of Tryz.func60 (by kernel_rfl) rfl) (wayB W H (natI wn) (natI kn)) _ ls X (HR.out.ext h) (fun Y x s hY hx hr => ?_)
    rw [hlb] at h1
    rw [hcb] at h2
    have q1 := List.all_eq_true.1 h1 x hx
    have q2 := List.all_eq_true.1 h2 x hx
    obtain ⟨e1, e2, e3, e4⟩ := toW_cells q2
    have hne : (toW x).1 ≠ [] := fun h => by
      unfold longB at q1
      rw [Bool.and_eq_true, decide_eq_true_iff, decide_eq_true_iff, e1, natI_len, h] at q1
      simp at q1
    have ho : -1 ≤ x.2 ∧ x.2 ≤ 3 := by
      unfold cellsB at q2
      rw [Bool.and_eq_true, Bool.and_eq_true, decide_eq_true_iff, decide_eq_true_iff] at q2
      exact q2.2
    rw [e1] at hr
    have hxe : x = (natI (toW x).1, x.2) := Prod.ext e1 rfl
    have hc := isWay_c W H nw cw nk ck aw ak hW hH (natI wn) (natI kn) (toW x).1 x.2 s Y hr (HWR.out.ext (h.trans hY)) (HKR.out.ext (h.trans hY)) hne e2 ho
    rw [← hxe] at hc
    exact hc)
  have HAP := Lib.hid (show lb = true → cb = true → wb = true → N ≤ 256 → ∀ (X : World), Ext w X → Calls Tryz.prog 61 #[.agg #[.int .i64 (W : Int), .int .i64 (H : Int), .slice aw nw cw, .slice ak nk ck], .slice av N capv] X fun e w' => e = .returned (.bool ab) ∧ Ext X w' from fun h1 h2 h3 h4 X h => by
    rw [hab]
    refine areApart_c W H nw cw nk ck aw ak hW hH (gp hv) rfl rfl ls _ X (HR.out.ext h) (by rw [← hN]; exact h4) (fun x hx => ?_)
    rw [hlb] at h1
    rw [hcb] at h2
    rw [hwb] at h3
    exact wok_of hv.w8 hv.h8 (List.all_eq_true.1 h1 x hx) (List.all_eq_true.1 h2 x hx) (List.all_eq_true.1 h3 x hx))
  rw [← hlb, ← hcb, ← hwb, ← hab] at hrs
  rw [← hlb] at HLO
  rw [← hcb] at HCE
  have HRS2 := Lib.hid hrs
  clear hlb hcb hwb hab hrs hr hw hk hN hl5
  by_cases hbig : 256 < N
  · have e1 : rs = 6 := by rw [HRS2.out]; simp [hbig]
    have HE1 := Lib.hid e1
    have hb1 : decide ((256 : Int) < (N : Int)) = true := by simp; omega
    have hb2 : (256 : Int) < (N : Int) := by omega
    clear e1
    go_enter Tryz.func24, Tryz.ntmps24
    go_wp2_with (first | (go_at_call 44; refine Calls.mono (HOP.out _ E0.out) ?_; intro e Y1 h1; obtain ⟨h1, hE⟩ := h1; subst h1; have HY1 := Lib.hid (E0.out.trans hE); clear hE) | fail)
    refine bodyPost_ret (by first | (simp [results, Tryz.results24, go_sem]; done) | (simp [results, Tryz.results24, go_sem]; rfl)) rfl ?_
    exact ⟨by rw [HRN.out, HE1.out]; rfl, HY1.out.alloc _⟩
  · have hb1 : decide ((256 : Int) < (N : Int)) = false := by simp; omega
    have hb2 : ¬ (256 : Int) < (N : Int) := by omega
    have hN256 : N ≤ 256 := by omega
    have HRS3 := Lib.hid (show rs = if lb = false then 6 else if cb = false then 2 else if wb = false then 16 else if ab = false then 11 else 0 from by rw [HRS2.out]; simp [hbig])
    cases lb
    · have e1 : rs = 6 := by rw [HRS3.out]; rfl
      have HE1 := Lib.hid e1
      clear e1
      go_enter Tryz.func24, Tryz.ntmps24
      go_wp2_with (first | (go_at_call 44; refine Calls.mono (HOP.out _ E0.out) ?_; intro e Y1 h1; obtain ⟨h1, hE⟩ := h1; subst h1; have HY1 := Lib.hid (E0.out.trans hE); clear hE) | (go_at_call 57; refine Calls.mono (HLO.out _ (HY1.out.alloc _)) ?_; intro e Z1 h1; obtain ⟨h1, hE⟩ := h1; subst h1; have HB1 := Lib.hid (block_ext hE (heap_alloc_new Y1 (.cells #[.int .i64 (W : Int), .int .i64 (H : Int), .slice aw nw cw, .slice ak nk ck] 72))); have HZ1 := Lib.hid ((HY1.out.alloc _).trans hE); clear hE; obtain ⟨p0, p1, p2, p3⟩ := cells4 HB1.out) | fail)
      refine bodyPost_ret (by first | (simp [results, Tryz.results24, go_sem]; done) | (simp [results, Tryz.results24, go_sem]; rfl)) rfl ?_
      exact ⟨by rw [HRN.out, HE1.out]; rfl, HZ1.out⟩
    · cases cb
      · have e1 : rs = 2 := by rw [HRS3.out]; rfl
        have HE1 := Lib.hid e1
        clear e1
        go_enter Tryz.func24, Tryz.ntmps24
        go_wp2_with (first | (have hg := HZ1.out; clear hg; go_at_call 57; refine Calls.mono (HCE.out _ HZ1.out) ?_; intro e Z2 h1; obtain ⟨h1, hE⟩ := h1; subst h1; have HB2 := Lib.hid (block_ext hE HB1.out); have HZ2 := Lib.hid (HZ1.out.trans hE); clear p0 p1 p2 p3; clear hE; obtain ⟨p0, p1, p2, p3⟩ := cells4 HB2.out) | (go_at_call 44; refine Calls.mono (HOP.out _ E0.out) ?_; intro e Y1 h1; obtain ⟨h1, hE⟩ := h1; subst h1; have HY1 := Lib.hid (E0.out.trans hE); clear hE) | (go_at_call 57; refine Calls.mono (HLO.out _ (HY1.out.alloc _)) ?_; intro e Z1 h1; obtain ⟨h1, hE⟩ := h1; subst h1; have HB1 := Lib.hid (block_ext hE (heap_alloc_new Y1 (.cells #[.int .i64 (W : Int), .int .i64 (H : Int), .slice aw nw cw, .slice ak nk ck] 72))); have HZ1 := Lib.hid ((HY1.out.alloc _).trans hE); clear hE; obtain ⟨p0, p1, p2, p3⟩ := cells4 HB1.out) | fail)
        refine bodyPost_ret (by first | (simp [results, Tryz.results24, go_sem]; done) | (simp [results, Tryz.results24, go_sem]; rfl)) rfl ?_
        exact ⟨by rw [HRN.out, HE1.out]; rfl, HZ2.out⟩
      · cases wb
        · have e1 : rs = 16 := by rw [HRS3.out]; rfl
          have HE1 := Lib.hid e1
          clear e1
          go_enter Tryz.func24, Tryz.ntmps24
          go_wp2_with (first | (have hg := HZ2.out; clear hg; go_at_call 57; refine Calls.mono (HWA.out (by first | rfl | trivial) (by first | rfl | trivial) _ HZ2.out) ?_; intro e Z3 h1; obtain ⟨h1, hE⟩ := h1; subst h1; have HB3 := Lib.hid (block_ext hE HB2.out); have HZ3 := Lib.hid (HZ2.out.trans hE); clear p0 p1 p2 p3; clear hE; obtain ⟨p0, p1, p2, p3⟩ := cells4 HB3.out) | (have hg := HZ1.out; clear hg; go_at_call 57; refine Calls.mono (HCE.out _ HZ1.out) ?_; intro e Z2 h1; obtain ⟨h1, hE⟩ := h1; subst h1; have HB2 := Lib.hid (block_ext hE HB1.out); have HZ2 := Lib.hid (HZ1.out.trans hE); clear p0 p1 p2 p3; clear hE; obtain ⟨p0, p1, p2, p3⟩ := cells4 HB2.out) | (go_at_call 44; refine Calls.mono (HOP.out _ E0.out) ?_; intro e Y1 h1; obtain ⟨h1, hE⟩ := h1; subst h1; have HY1 := Lib.hid (E0.out.trans hE); clear hE) | (go_at_call 57; refine Calls.mono (HLO.out _ (HY1.out.alloc _)) ?_; intro e Z1 h1; obtain ⟨h1, hE⟩ := h1; subst h1; have HB1 := Lib.hid (block_ext hE (heap_alloc_new Y1 (.cells #[.int .i64 (W : Int), .int .i64 (H : Int), .slice aw nw cw, .slice ak nk ck] 72))); have HZ1 := Lib.hid ((HY1.out.alloc _).trans hE); clear hE; obtain ⟨p0, p1, p2, p3⟩ := cells4 HB1.out) | fail)
          refine bodyPost_ret (by first | (simp [results, Tryz.results24, go_sem]; done) | (simp [results, Tryz.results24, go_sem]; rfl)) rfl ?_
          exact ⟨by rw [HRN.out, HE1.out]; rfl, HZ3.out⟩
        · cases ab
          · have e1 : rs = 11 := by rw [HRS3.out]; rfl
            have HE1 := Lib.hid e1
            clear e1
            go_enter Tryz.func24, Tryz.ntmps24
            go_wp2_with (first | (have hg := HZ3.out; clear hg; go_at_call 61; refine Calls.mono (HAP.out (by first | rfl | trivial) (by first | rfl | trivial) (by first | rfl | trivial) hN256 _ HZ3.out) ?_; intro e Z4 h1; obtain ⟨h1, hE⟩ := h1; subst h1; have HB4 := Lib.hid (block_ext hE HB3.out); have HZ4 := Lib.hid (HZ3.out.trans hE); clear p0 p1 p2 p3; clear hE; obtain ⟨p0, p1, p2, p3⟩ := cells4 HB4.out) | (have hg := HZ2.out; clear hg; go_at_call 57; refine Calls.mono (HWA.out (by first | rfl | trivial) (by first | rfl | trivial) _ HZ2.out) ?_; intro e Z3 h1; obtain ⟨h1, hE⟩ := h1; subst h1; have HB3 := Lib.hid (block_ext hE HB2.out); have HZ3 := Lib.hid (HZ2.out.trans hE); clear p0 p1 p2 p3; clear hE; obtain ⟨p0, p1, p2, p3⟩ := cells4 HB3.out) | (have hg := HZ1.out; clear hg; go_at_call 57; refine Calls.mono (HCE.out _ HZ1.out) ?_; intro e Z2 h1; obtain ⟨h1, hE⟩ := h1; subst h1; have HB2 := Lib.hid (block_ext hE HB1.out); have HZ2 := Lib.hid (HZ1.out.trans hE); clear p0 p1 p2 p3; clear hE; obtain ⟨p0, p1, p2, p3⟩ := cells4 HB2.out) | (go_at_call 44; refine Calls.mono (HOP.out _ E0.out) ?_; intro e Y1 h1; obtain ⟨h1, hE⟩ := h1; subst h1; have HY1 := Lib.hid (E0.out.trans hE); clear hE) | (go_at_call 57; refine Calls.mono (HLO.out _ (HY1.out.alloc _)) ?_; intro e Z1 h1; obtain ⟨h1, hE⟩ := h1; subst h1; have HB1 := Lib.hid (block_ext hE (heap_alloc_new Y1 (.cells #[.int .i64 (W : Int), .int .i64 (H : Int), .slice aw nw cw, .slice ak nk ck] 72))); have HZ1 := Lib.hid ((HY1.out.alloc _).trans hE); clear hE; obtain ⟨p0, p1, p2, p3⟩ := cells4 HB1.out) | fail)
            refine bodyPost_ret (by first | (simp [results, Tryz.results24, go_sem]; done) | (simp [results, Tryz.results24, go_sem]; rfl)) rfl ?_
            exact ⟨by rw [HRN.out, HE1.out]; rfl, HZ4.out⟩
          · have e1 : rs = 0 := by rw [HRS3.out]; rfl
            have HE1 := Lib.hid e1
            clear e1
            go_enter Tryz.func24, Tryz.ntmps24
            go_wp2_with (first | (have hg := HZ3.out; clear hg; go_at_call 61; refine Calls.mono (HAP.out (by first | rfl | trivial) (by first | rfl | trivial) (by first | rfl | trivial) hN256 _ HZ3.out) ?_; intro e Z4 h1; obtain ⟨h1, hE⟩ := h1; subst h1; have HB4 := Lib.hid (block_ext hE HB3.out); have HZ4 := Lib.hid (HZ3.out.trans hE); clear p0 p1 p2 p3; clear hE; obtain ⟨p0, p1, p2, p3⟩ := cells4 HB4.out) | (have hg := HZ2.out; clear hg; go_at_call 57; refine Calls.mono (HWA.out (by first | rfl | trivial) (by first | rfl | trivial) _ HZ2.out) ?_; intro e Z3 h1; obtain ⟨h1, hE⟩ := h1; subst h1; have HB3 := Lib.hid (block_ext hE HB2.out); have HZ3 := Lib.hid (HZ2.out.trans hE); clear p0 p1 p2 p3; clear hE; obtain ⟨p0, p1, p2, p3⟩ := cells4 HB3.out) | (have hg := HZ1.out; clear hg; go_at_call 57; refine Calls.mono (HCE.out _ HZ1.out) ?_; intro e Z2 h1; obtain ⟨h1, hE⟩ := h1; subst h1; have HB2 := Lib.hid (block_ext hE HB1.out); have HZ2 := Lib.hid (HZ1.out.trans hE); clear p0 p1 p2 p3; clear hE; obtain ⟨p0, p1, p2, p3⟩ := cells4 HB2.out) | (go_at_call 44; refine Calls.mono (HOP.out _ E0.out) ?_; intro e Y1 h1; obtain ⟨h1, hE⟩ := h1; subst h1; have HY1 := Lib.hid (E0.out.trans hE); clear hE) | (go_at_call 57; refine Calls.mono (HLO.out _ (HY1.out.alloc _)) ?_; intro e Z1 h1; obtain ⟨h1, hE⟩ := h1; subst h1; have HB1 := Lib.hid (block_ext hE (heap_alloc_new Y1 (.cells #[.int .i64 (W : Int), .int .i64 (H : Int), .slice aw nw cw, .slice ak nk ck] 72))); have HZ1 := Lib.hid ((HY1.out.alloc _).trans hE); clear hE; obtain ⟨p0, p1, p2, p3⟩ := cells4 HB1.out) | fail)
            refine bodyPost_ret (by first | (simp [results, Tryz.results24, go_sem]; done) | (simp [results, Tryz.results24, go_sem]; rfl)) rfl ?_
            exact ⟨by rw [HRN.out, HE1.out]; rfl, HZ4.out⟩
end Go.Proofs.YtppjnpempgpkaaaGreat
