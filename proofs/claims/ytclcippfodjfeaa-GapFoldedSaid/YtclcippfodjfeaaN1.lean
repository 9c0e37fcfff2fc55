/- measure, by its contract. -/
import Derived.Test.YtclcippfodjfeaaM1
import Derived.Deep.LoopGhost
namespace Go.Proofs.Ytclcippfodjfeaa
open Go.RowKit Go.Shelf
set_option linter.unusedVariables false
set_option linter.unusedSimpArgs false
attribute [local go_sem] Oper.semAt_some
def Fr64 (Bn Br : Nat) (ds : List Deferred) (A : Act) : Prop :=
  ∃ x0 x3 x4 x5 x6 x7 x8 x9 x10 x11 x12 x13 x14 x15 x16 x17 x18 x19 x20 x21 x22 x23 x24 x25 x26 x27 x28 x29 x30 x31 x32 x33 x34 x35 x36 x37 x38 x39 x40 x41 x42 x43 x44 x45 x46 x47 x48 x49 x50 x51 x52 x53 x54 x55 x56 x57 x58 x59 x60 x61 x62 x63 x64 x65 x66 x67 x68 : Value, A = { tmps := #[x0, .pointer (some ⟨Bn, 0, none⟩), .pointer (some ⟨Br, 0, none⟩), x3, x4, x5, x6, x7, x8, x9, x10, x11, x12, x13, x14, x15, x16, x17, x18, x19, x20, x21, x22, x23, x24, x25, x26, x27, x28, x29, x30, x31, x32, x33, x34, x35, x36, x37, x38, x39, x40, x41, x42, x43, x44, x45, x46, x47, x48, x49, x50, x51, x52, x53, x54, x55, x56, x57, x58, x59, x60, x61, x62, x63, x64, x65, x66, x67, x68], defers := ds }
theorem Fr64.mk {Bn Br : Nat} {ds : List Deferred} {x0 x3 x4 x5 x6 x7 x8 x9 x10 x11 x12 x13 x14 x15 x16 x17 x18 x19 x20 x21 x22 x23 x24 x25 x26 x27 x28 x29 x30 x31 x32 x33 x34 x35 x36 x37 x38 x39 x40 x41 x42 x43 x44 x45 x46 x47 x48 x49 x50 x51 x52 x53 x54 x55 x56 x57 x58 x59 x60 x61 x62 x63 x64 x65 x66 x67 x68 : Value} : Fr64 Bn Br ds { tmps := #[x0, .pointer (some ⟨Bn, 0, none⟩), .pointer (some ⟨Br, 0, none⟩), x3, x4, x5, x6, x7, x8, x9, x10, x11, x12, x13, x14, x15, x16, x17, x18, x19, x20, x21, x22, x23, x24, x25, x26, x27, x28, x29, x30, x31, x32, x33, x34, x35, x36, x37, x38, x39, x40, x41, x42, x43, x44, x45, x46, x47, x48, x49, x50, x51, x52, x53, x54, x55, x56, x57, x58, x59, x60, x61, x62, x63, x64, x65, x66, x67, x68], defers := ds } := ⟨x0, x3, x4, x5, x6, x7, x8, x9, x10, x11, x12, x13, x14, x15, x16, x17, x18, x19, x20, x21, x22, x23, x24, x25, x26, x27, x28, x29, x30, x31, x32, x33, x34, x35, x36, x37, x38, x39, x40, x41, x42, x43, x44, x45, x46, x47, x48, x49, x50, x51, x52, x53, x54, x55, x56, x57, x58, x59, x60, x61, x62, x63, x64, x65, x66, x67, x68, rfl⟩
structure BoxP (p : Prop) : Prop where
  out : p
theorem textI_skipH {F : Fence} {n : Nat} {P : Program} {ops : Array Oper} {Q : Exit → Act → World → Prop} {tk : Oper → Bool} {S : World → Prop} {o : Oper} {rest : List Oper} {a : Act} {w : World} (hw : Region.wanted o (yielded ops a.tmps) = false) (h : BoxP (wpTextI F n P ops Q tk S rest (a.put o.dst undef) w)) : BoxP (wpTextI F n P ops Q tk S (o :: rest) a w) := ⟨textI_skip hw h.out⟩
theorem textI_chunkH {F : Fence} {n : Nat} {P : Program} {ops : Array Oper} {Q : Exit → Act → World → Prop} {tk : Oper → Bool} {S : World → Prop} (m : Nat) {l : List Oper} {a aEnd : Act} {w : World} (hp : partBT tk (l.take m) a.tmps.size = true) (hS : S w) (h : ∀ W, S W → wpQuiet P ops (fun w' => ∃ n, w' = W.drewN n) (fun a' => a' = aEnd) (l.take m) a) (hr : BoxP (wpTextI F n P ops Q tk S (l.drop m) aEnd w)) : wpTextI F n P ops Q tk S l a w := textI_chunk m hp hS h hr.out
/-- Where the rounds of measure stand. -/
structure Rds (ss : List (Lk × Int)) (p : Nat → Int) (res : St) (N : Nat) (rd : List Int) (st : St) : Prop where
  iv : ∃ r k, Iv ss p st.1 st r k
  more : (st.1 = rd ∧ res = st) ∨ (st.1 ≠ rd ∧ measF ss N st = some res)
theorem Rds.next {ss : List (Lk × Int)} {p : Nat → Int} (hp : Pot ss p) (hs : ∀ s ∈ ss, s.1.2 < 62) {res : St} {N : Nat} {rd : List Int} {st : St} (h : Rds ss p res N rd st) (hne : st.1 ≠ rd) : ∃ M, M < N ∧ Rds ss p res M st.1 (roundM ss st) := by
  rcases h.more with ⟨e, -⟩ | ⟨-, hm⟩
  · exact absurd e hne
  · obtain ⟨r, k, hi⟩ := h.iv
    obtain ⟨r', h'⟩ := Iv.fold hp hs ss hi (fun _ h => h)
    cases N with
    | zero => cases hm
    | succ M =>
      refine ⟨M, by omega, ⟨r', k + 1, h'.next⟩, ?_⟩
      unfold measF at hm
      by_cases he : (roundM ss st).1 = st.1
      · rw [if_pos (by simpa using he)] at hm
        exact .inl ⟨he, by cases hm; rfl⟩
      · rw [if_neg (by simpa using he)] at hm
        exact .inr ⟨he, hm⟩
set_option maxRecDepth 100000 in
set_option maxHeartbeats 16000000 in
theorem measure64 (w₀ w : World) (bn : Nat) (a : Option Addr) (n cap : Nat) (row : List Int) (mf nf : Nat) (F : List Lk) (far : List Int) (last : List Lk) (p : Nat → Int) (res : St)
    (h : NetAt w₀ w bn a n cap row mf nf F far last) (hp : Pot (stepsL row F) p) (hB : ∀ v, p v ≤ 31) (hres : meas row F last = some res) :
    Calls Try.prog 64 #[.pointer (some ⟨bn, 0, none⟩)] w fun e w' => (∃ v, e = .returned v) ∧ NetAt w₀ w' bn a n cap row mf nf F res.1 res.2 ∧ Keep [bn] 2 w w' := by
  refine (callsIn_wide (n := 12)).1 ?_
  obtain ⟨w1, hw1⟩ : ∃ w1, w1 = w.alloc (.cells #[.pointer (some ⟨bn, 0, none⟩)] 64) := ⟨_, rfl⟩
  have hE1 : Ext w w1 := by rw [hw1]; exact (Ext.refl w).alloc _
  have hb1 : Boxed w1 w.heap.size 64 (.pointer (some ⟨bn, 0, none⟩)) := by rw [hw1]; exact Boxed.new w 64 _
  have hz1 : w1.heap.size = w.heap.size + 1 := by rw [hw1]; simp
  have hN1 := h.ext hE1
  obtain ⟨W1, hcl, hn1, hk1⟩ := hN1.net.cleared
  have hlt := h.net.lt
  have hne : w.heap.size ≠ bn := by omega
  have c1 := hb1.cell
  have c1' := hk1.cell (by simpa using hne) c1
  have f1 := hn1.free 2
  have hn2 := hn1.setFar (i := 0) (by omega) 1
  have hk2 := hk1.trans (Keep.set (c := 2) W1 (rs := [bn]) (b := bn) (o := 2) (by simp) (by omega) (.int .i64 1))
  rw [zer_far0, Nat.add_zero] at hn2
  have hb2 := hk2.boxed (by simpa using hne) hb1
  have cf := hn1.farAt (i := 0) (by omega)
  obtain ⟨W2, hW2⟩ : ∃ W2, W2 = W1.setCell ⟨bn, 2, none⟩ (.int .i64 1) := ⟨_, rfl⟩
  have HK1 := Lib.hid hk1
  rw [← hW2] at hn2 hk2 hb2
  have HN2 := Lib.hid (hN1.turn hk2 hn2)
  have HK2 := Lib.hid ((Keep.ext hE1).trans hk2); have HP := Lib.hid hp; have HB := Lib.hid hB; have HB2 := Lib.hid hb2
  have hz2 : w.heap.size + 1 ≤ W2.heap.size := by have := hk2.size; omega
  have HR := Lib.hid (show Rds (stepsL row F) p res 2000 zer62 (far0, last) from ⟨⟨_, _, iv_start hp h.net.l2⟩, .inr ⟨show far0 ≠ zer62 by decide, hres⟩⟩)
  have hsteps := fun s hs => (steps_lt (F := F) (by rw [← h.len]; exact h.le) s hs)
  have HST := Lib.hid hsteps
  subst hw1
  have hmf := h.flow.lt
  have hmn := h.ne
  clear hN1 hn1 hk1 hn2 hk2 hp hB hres hb1 hE1 hb2 hsteps h
  refine callsIn_of_wp_marks Try.func64 rfl trivial ?_ rfl
  simp only [Try.ntmps64, List.size_toArray, List.length_cons, List.length_nil, Nat.reduceAdd, Nat.reduceSub, Array.replicate_succ, Array.replicate_zero, List.push_toArray, List.append_toArray, List.nil_append, List.cons_append]
  refine wpIn_wide.2 ?_
  go_upto_region 3 with fail
  rw [← hW2]
  clear hcl c1 c1' cf f1 hW2 hz1
  apply wp_region_lit
  refine wpList_build rfl 75 #[] rfl (by kernel_rfl) ?_
  rw [show (Try.prog.built 75 (Array.map _ #[]).toList).getD #[] = (zer62.map (Value.int .i64)).toArray from by kernel_rfl]
  refine wp_new75 rfl rfl 2 (.tmp 13) rfl rfl rfl zer62 rfl rfl rfl ?_
  intro W3 hm3 hE3 hz3
  have HM3 := Lib.hid hm3; have HE3 := Lib.hid hE3
  have HN3 := Lib.hid (HN2.out.ext hE3); have HB3 := Lib.hid (boxed_later HB2.out hE3); have HK3 := Lib.hid (HK2.out.trans (Keep.ext hE3))
  clear hm3 hE3 HN2
  try simp only [Act.put, List.setIfInBounds_toArray, List.set_cons_zero, List.set_cons_succ]
  refine wpList_nil ?_
  go_wp2
  refine wp_loop_ghost (fun N A wr => ∃ (Br : Nat) (rd : List Int) (st : St) (ds : List Deferred), Fr64 w.heap.size Br ds A ∧ W2.heap.size ≤ Br ∧ Br < wr.heap.size ∧ Hid (MkB wr Br rd) ∧ Hid (Rds (stepsL row F) p res N rd st) ∧ Hid (NetAt w₀ wr bn a n cap row mf nf F st.1 st.2) ∧ Hid (Keep [bn] 2 W2 wr) ∧ Hid (Marks W3.heap.size ds wr)) 2000 ?start ?round
  case start => exact ⟨W2.heap.size, zer62, (far0, last), [], Fr64.mk, Nat.le_refl _, by omega, HM3, HR, HN3, Lib.hid (Keep.ext HE3.out), Lib.hid (Marks.nil _ _)⟩
  case round =>
    rintro N A wr ⟨Br, rd, st, ds, ⟨x0, x3, x4, x5, x6, x7, x8, x9, x10, x11, x12, x13, x14, x15, x16, x17, x18, x19, x20, x21, x22, x23, x24, x25, x26, x27, x28, x29, x30, x31, x32, x33, x34, x35, x36, x37, x38, x39, x40, x41, x42, x43, x44, x45, x46, x47, x48, x49, x50, x51, x52, x53, x54, x55, x56, x57, x58, x59, x60, x61, x62, x63, x64, x65, x66, x67, x68, rfl⟩, hBr, hBr2, hMB, hRD, hNA, hKP, hMK⟩
    have nb : w.heap.size ∉ [bn] := by simpa using hne
    have d1 := hKP.out.cell nb HB2.out.cell
    have hmb := hMB.out; have hnb := hNA.out.net
    have l1 := hmb.1; have l2 := hnb.l1
    have r1 := hmb.range; have r2 := hnb.range
    obtain ⟨b0, hb0⟩ : ∃ b0, b0 = !decide (rd = st.1) := ⟨_, rfl⟩
    have HQ := Lib.hid hb0
    go_upto_region 4 with fail
    refine wp_region_order (fun X : World => X.cell? ⟨w.heap.size, 0, none⟩ = some (.pointer (some ⟨bn, 0, none⟩)) ∧ Hid (X.rangeAt Br 0 (rd.map (Value.int .i64))) ∧ Hid (X.rangeAt bn 2 (st.1.map (Value.int .i64))) ∧ Hid (Ext wr X)) [0, 1, 2, 3, 4, 5] (by kernel_rfl) (by kernel_rfl) (by exact ⟨d1, Lib.hid ((World.rangeAt_drew _ _ _ _).2 r1), Lib.hid ((World.rangeAt_drew _ _ _ _).2 r2), Lib.hid (Ext.refl _).drew⟩) (fun hHeld => ?_)
    simp only [opsIn, List.filterMap_cons, List.filterMap_nil, List.getElem?_toArray, List.getElem?_cons_succ, List.getElem?_cons_zero]
    refine text_take (by rfl) (by rfl) (fun W hW => run_load75 rfl rfl l1 W hW.2.1.out) ?_
    try simp only [Act.put, List.setIfInBounds_toArray, List.set_cons_zero, List.set_cons_succ]
    refine' text_chunk 3 (by kernel_rfl) hHeld ?ck1 ?cr1
    case ck1 =>
      intro W hSw
      have hSW := hSw
      try dsimp only at hSW
      clear hSw
      simp only [List.take_succ_cons, List.take_zero, List.drop_succ_cons, List.drop_zero]
      repeat (go_big_quiet_step (fail))
      exact wpQuiet_nil rfl
    simp only [List.take_succ_cons, List.take_zero, List.drop_succ_cons, List.drop_zero]
    refine text_take (by rfl) (by rfl) (fun W hW => run_load75 rfl rfl l2 W hW.2.2.1.out) ?_
    try simp only [Act.put, List.setIfInBounds_toArray, List.set_cons_zero, List.set_cons_succ]
    refine text_take (by rfl) (by rfl) (fun W hW => run_neq75 rfl rfl rfl l1 l2 W) ?_
    try simp only [Act.put, List.setIfInBounds_toArray, List.set_cons_zero, List.set_cons_succ]
    refine text_done ?_
    rw [← hb0]
    clear hHeld r1 r2 hb0
    cases b0
    · have he : rd = st.1 := by have := HQ.out; simpa using this
      have hres : res = st := by
        rcases hRD.out.more with ⟨-, h⟩ | ⟨h, -⟩
        · exact h
        · exact absurd he.symm h
      subst hres
      go_wp2
      refine marks_leaveJ (base := W3.heap.size) (fun X => NetAt w₀ X bn a n cap row mf nf F res.1 res.2 ∧ Keep [bn] 2 w X) ?_ _ _ _ (by simp) ⟨hNA.out.ext (Ext.refl _).drew, HK2.out.trans (hKP.out.trans (Keep.ext (Ext.refl _).drew))⟩ (hMK.out.keep (rs := [bn]) (c := 2) (Keep.ext (Ext.refl _).drew) (by simp; omega)) (fun W' hj => ⟨_, results_none rfl _ _ _, ⟨_, rfl⟩, hj⟩)
      rintro X D ⟨hj1, hj2⟩ hD -
      have := hNA.out.bn0
      exact ⟨hj1.putObj (by omega) (by omega) (by omega) _, hj2.putObj (by omega) (by simp; omega) _⟩
    · have hne2 : st.1 ≠ rd := by have := HQ.out; intro e; simp [e] at this
      have HL2 := Lib.hid l2
      have HMD := Lib.hid (hmb.ext (Ext.refl wr).drew); have HRG := Lib.hid (hnb.ext (Ext.refl wr).drew).range
      have HI := Lib.hid (show (Try.prog.info? 75).map (·.size) = some (st.1.map (Value.int .i64)).length from by rw [info75, List.length_map, l2])
      clear hmb hnb l1 l2
      go_wp2_with (first | (refine wpList_load_mid rfl 75 _ rfl bn 2 rfl (st.1.map (Value.int .i64)) _ HRG.out Try.underlying75 rfl HI.out ?_) | (refine wp_store75 rfl _ _ rfl Br rfl rfl HMD.out HL2.out ?_; intro W4 hm4 hk4; have HM4 := Lib.hid hm4; have HK4 := Lib.hid ((Keep.refl [Br] 0 wr).drew.trans hk4); have d4 := HK4.out.cell (by simp; omega) d1; clear hm4 hk4))
      have hsz4 := HK4.out.size
      refine (steps84 bn W4).mono ?_
      rintro e w5 ⟨rfl, rfl⟩
      have hE5 : Ext W4 (W4.alloc (.cells #[.pointer (some ⟨bn, 0, none⟩)] 64)) := (Ext.refl W4).alloc _
      have hb5 : Boxed (W4.alloc (.cells #[.pointer (some ⟨bn, 0, none⟩)] 64)) W4.heap.size 64 (.pointer (some ⟨bn, 0, none⟩)) := Boxed.new W4 64 _
      have hz5 : (W4.alloc (.cells #[.pointer (some ⟨bn, 0, none⟩)] 64)).heap.size = W4.heap.size + 1 := by simp
      generalize hW5 : W4.alloc (.cells #[.pointer (some ⟨bn, 0, none⟩)] 64) = W5 at *
      have hw0 := hNA.out.bn0
      have hNA5 := (hNA.out.keep HK4.out (by simp; omega) (by simp; omega) (by simp; omega)).ext hE5
      have HNA5 := Lib.hid hNA5; have HM5 := Lib.hid (HM4.out.ext hE5)
      have HSEQ := Lib.hid (steps96 11 W4.heap.size bn mf nf 5000 n cap a row F [bn] W5 (by omega) hNA5.len hNA5.rd hNA5.le (Nat.le_refl _) (by simp; omega) hb5 (by simp; omega) (fun X hX => ⟨hX.head bn 0 _ (by simp) (by omega) hNA5.net.wanted, hX.head bn 1 _ (by simp) (by omega) hNA5.net.flow⟩) hNA5.flow (by simp; exact hmn))
      have HMK5 := Lib.hid ((hMK.out.keepC HK4.out (fun r hr => by obtain rfl := List.mem_singleton.1 hr; exact .inr ⟨_, _, _, hMB.out.2⟩)).keep (rs := []) (c := 0) (Keep.ext hE5) (by simp))
      clear hNA5 hW5 hb5
      go_wp2
      refine wpIn_wide.1 (wp_seqAnyB (n := 12) (by omega) (gf := 96) (encs := encT row F) (ps := #[26, 27]) (rs := [bn]) (c := 2) rfl (enters_of Try.func96 (by kernel_rfl) rfl) HSEQ.out (Below.refl _ _) (fun _ => rfl) (by simp; omega)
        (fun pre X => (∃ r k, Iv (stepsL row F) p st.1 ((vT pre).foldl (upd st.1) st) r k) ∧ NetB X bn (.slice a n cap) mf ((vT pre).foldl (upd st.1) st).1 ((vT pre).foldl (upd st.1) st).2 ∧ MkB X Br st.1 ∧ Keep [bn] 2 W5 X) ?hI ?h0 ?hIE
        77 (fun x => #[.int .i64 (x.1.1.1 : Int), .int .i64 (x.1.1.2 : Int)]) ?af ?assign ?body ?done)
      case hI =>
        rintro s A B rw ⟨h1, h2, h3, h4⟩ hg hr
        exact ⟨h1, h2.grow hg hr, h3.grow hg hr, ownFrom_keep (β := Unit) (Nat.le_refl _) (by simp; omega) () A B rw h4 hg hr⟩
      case h0 => exact ⟨hRD.out.iv, HNA5.out.net, HM5.out, Keep.refl _ _ _⟩
      case hIE =>
        rintro pre X X' ⟨h1, h2, h3, h4⟩ hE
        exact ⟨h1, h2.ext hE, h3.ext hE, h4.trans (Keep.ext hE)⟩
      case assign =>
        rintro l2 x X B K hB hK
        dsimp only [encT]
        gi_wp2
        rw [← hB]
        exact hK
      case body =>
        rintro l2 pre x Bx X hl2 ⟨⟨r, k, hiv⟩, hnX, hmX, hkX⟩ hBx hbx hlt2
        repeat (rename_i q; clear q)
        clear hMB hNA hKP hMK HQ hne2 HMD HRG HSEQ HMK5 HK3 HB3 HN3 HE3 HM3 HK1 HR hz3 hlt2
        obtain ⟨⟨⟨u, v⟩, c⟩, hxm⟩ := x
        obtain ⟨hu, hv⟩ := HST.out _ hxm
        obtain ⟨hc1, hc2⟩ := step_c (by rw [← HNA5.out.len]; exact HNA5.out.le) hxm
        obtain ⟨iu, hu1, hu2, hu3⟩ : ∃ iu : Int, iu = (u : Int) ∧ 0 ≤ iu ∧ iu < 62 := ⟨u, rfl, by omega, by dsimp only at hu; omega⟩
        dsimp only at hu hv hbx hc1 hc2 ⊢
        obtain ⟨st', hst⟩ : ∃ s, s = (vT pre).foldl (upd st.1) st := ⟨_, rfl⟩
        have hnew : (vT (pre ++ [⟨((u, v), c), hxm⟩])).foldl (upd st.1) st = upd st.1 st' ((u, v), c) := by rw [vT_snoc, List.foldl_append, ← hst]; rfl
        rw [← hst] at hiv hnX
        rw [hnew]
        have hiv2 := hiv.upd HP.out (fun s hs => (HST.out s hs).2) hxm
        have e1 := hkX.cell nb (cell_ext hE5 d4)
        have e2 : X.cell? ⟨Bx, 0, none⟩ = some (.int .i64 (u : Int)) := cell_of_blk hbx rfl
        have e3 : X.cell? ⟨Bx, 1, none⟩ = some (.int .i64 (v : Int)) := cell_of_blk hbx rfl
        have e4 := hmX.at hu
        have e5 := hnX.farAt hv
        have b1 : 0 ≤ fa st.1 u ∧ fa st.1 u ≤ 31 := by
          obtain ⟨r, k, h⟩ := hRD.out.iv
          have h1 := h.bd u; have h2 := HB.out u
          rcases h1 with h1 | h1 <;> omega
        obtain ⟨fu, hfu⟩ : ∃ y, y = fa st.1 u := ⟨_, rfl⟩
        obtain ⟨fv, hfv⟩ : ∃ y, y = fa st'.1 v := ⟨_, rfl⟩
        have hupd : upd st.1 st' ((u, v), c) = if decide (0 < fu) && decide (fv < fu + c) then (st'.1.set v (fu + c), st'.2.set v (u, v)) else st' := by rw [hfu, hfv]; rfl
        rw [← hfu] at e4 b1
        rw [← hfv] at e5
        have f5 := hnX.free (2 + v)
        have HIV2 := Lib.hid hiv2; have HUP := Lib.hid hupd; have HNX := Lib.hid hnX; have HMX := Lib.hid hmX; have HKX := Lib.hid hkX
        obtain ⟨b1a, b1b⟩ := b1
        have u0 : (0 : Int) ≤ (u : Int) := by omega
        have u1 : (u : Int) < 62 := by omega
        have v0 : (0 : Int) ≤ (v : Int) := by omega
        have v1 : (v : Int) < 62 := by omega
        clear hu1 hu2 hu3 hiv hnX hmX hkX hiv2 hupd hst hnew hfu hfv hRD
        have t0 : Hid (Keep [bn] 2 X X.drew) := Lib.hid (Keep.ext (Ext.refl X).drew)
        gi_wp2
        by_cases hp1 : 0 < fu
        · have hd1 : decide (0 < fu) = true := decide_eq_true hp1
          by_cases hp2 : fv < fu + c
          · have hd2 : decide (fv < fu + c) = true := decide_eq_true hp2
            have HUP2 := Lib.hid (show upd st.1 st' ((u, v), c) = (st'.1.set v (fu + c), st'.2.set v (u, v)) from by rw [HUP.out, hd1, hd2]; rfl)
            refine wpIn_order (tk := takeB) (fun f => trivial) (fun Z : World => Z.cell? ⟨w.heap.size, 0, none⟩ = some (.pointer (some ⟨bn, 0, none⟩)) ∧ Z.cell? ⟨Bx, 0, none⟩ = some (.int .i64 (u : Int)) ∧ Z.cell? ⟨Bx, 1, none⟩ = some (.int .i64 (v : Int)) ∧ Z.cell? ⟨Br, u, none⟩ = some (.int .i64 fu) ∧ Z.cell? ⟨bn, 2 + v, none⟩ = some (.int .i64 fv) ∧ Hid (Ext X Z)) [0, 1, 2, 3, 4, 5, 6, 7, 8, 9, 10, 11, 12, 13, 14, 15, 16, 17, 18, 19, 20] (by kernel_rfl) (by kernel_rfl) (by kernel_rfl) (by exact ⟨e1, e2, e3, e4, e5, Lib.hid (Ext.refl _).drew⟩) (fun hHeld => ?_)
            simp only [opsIn, List.filterMap_cons, List.filterMap_nil, List.getElem?_toArray, List.getElem?_cons_succ, List.getElem?_cons_zero]
            refine' textI_chunk 21 (by kernel_rfl) hHeld ?ck6 ?cr6
            case ck6 =>
              intro W hSw
              have hSW := hSw
              try dsimp only at hSW
              clear hSw
              simp only [List.take_succ_cons, List.take_zero, List.drop_succ_cons, List.drop_zero]
              repeat (go_big_quiet_step (fail))
              exact wpQuiet_nil rfl
            simp only [List.take_succ_cons, List.take_zero, List.drop_succ_cons, List.drop_zero]
            refine textI_done ?_
            clear hHeld
            gi_wp2
            refine wpIn_order (tk := takeB) (fun f => trivial) (fun Z : World => Z.cell? ⟨w.heap.size, 0, none⟩ = some (.pointer (some ⟨bn, 0, none⟩)) ∧ Z.cell? ⟨Bx, 0, none⟩ = some (.int .i64 (u : Int)) ∧ Z.cell? ⟨Bx, 1, none⟩ = some (.int .i64 (v : Int)) ∧ Z.cell? ⟨Br, u, none⟩ = some (.int .i64 fu) ∧ Hid (Keep [bn] 2 X Z)) [0, 1, 2, 3, 4, 5, 6, 7, 8, 9, 10, 11, 12, 13, 14, 15, 17, 18, 16, 19, 20] (by kernel_rfl) (by kernel_rfl) (by kernel_rfl) (by exact ⟨e1, e2, e3, e4, Lib.hid (Keep.ext (Ext.refl _).drew.drew)⟩) (fun hHeld => ?_)
            simp only [opsIn, List.filterMap_cons, List.filterMap_nil, List.getElem?_toArray, List.getElem?_cons_succ, List.getElem?_cons_zero]
            refine' textI_chunk 18 (by kernel_rfl) hHeld ?ck4 ?cr4
            case ck4 =>
              intro W hSw
              have hSW := hSw
              try dsimp only at hSW
              clear hSw
              simp only [List.take_succ_cons, List.take_zero, List.drop_succ_cons, List.drop_zero]
              repeat (go_big_quiet_step (fail))
              exact wpQuiet_nil rfl
            simp only [List.take_succ_cons, List.take_zero, List.drop_succ_cons, List.drop_zero]
            have q1 := hne.symm
            have q2 : bn ≠ Bx := by omega
            have q3 : bn ≠ Br := by omega
            have NF := HNX.out.setFar hv (fu + c)
            have KF := Lib.hid (Keep.set (rs := [bn]) (c := 2) X (b := bn) (o := 2 + v) (by simp) (by omega) (.int .i64 (fu + c)))
            have g1 := NF.last1 hv; have g2 := NF.last2 hv; have g3 := NF.free (64 + 2 * v); have g4 := NF.free (64 + 2 * v + 1)
            have g5 := NF.last1 hv; have g6 := NF.last2 hv; have g7 := NF.free (64 + 2 * v); have g8 := NF.free (64 + 2 * v + 1)
            rw [Nat.mul_comm 2 v] at g5 g6 g7 g8
            have HNF := Lib.hid (by have := NF.setLast hv (u, v); rw [Nat.mul_comm 2 v] at this; exact this); clear NF
            have KL := Lib.hid ((KF.out.trans (Keep.set (rs := [bn]) (c := 2) _ (b := bn) (o := 64 + v * 2) (by simp) (by omega) (.int .i64 (u : Int)))).trans (Keep.set (rs := [bn]) (c := 2) _ (b := bn) (o := 64 + v * 2 + 1) (by simp) (by omega) (.int .i64 (v : Int))))
            have z1 : (X.setCell ⟨bn, 2 + v, none⟩ (.int .i64 (fu + c))).cell? ⟨w.heap.size, 0, none⟩ = some (.pointer (some ⟨bn, 0, none⟩)) := far_ e1 q1
            have z2 : (X.setCell ⟨bn, 2 + v, none⟩ (.int .i64 (fu + c))).cell? ⟨Bx, 0, none⟩ = some (.int .i64 (u : Int)) := far_ e2 q2
            have z3 : (X.setCell ⟨bn, 2 + v, none⟩ (.int .i64 (fu + c))).cell? ⟨Bx, 1, none⟩ = some (.int .i64 (v : Int)) := far_ e3 q2
            have z4 : (X.setCell ⟨bn, 2 + v, none⟩ (.int .i64 (fu + c))).cell? ⟨Br, u, none⟩ = some (.int .i64 fu) := far_ e4 q3
            refine textI_call (by rfl) (by rfl) (fun K hK => ?_)
            go_simp
            all_goals (try (gi_wp2_with fail))
            refine hK.out _ _ (by exact ⟨z1, z2, z3, z4, Lib.hid ((KF.out.trans (Keep.ext (Ext.refl _).drew.drew)))⟩) (fun hHeld => ?_)
            clear hK K
            try simp only [Act.put, List.setIfInBounds_toArray, List.set_cons_zero, List.set_cons_succ]
            refine' textI_chunk 1 (by kernel_rfl) hHeld ?ck5 ?cr5
            case ck5 =>
              intro W hSw
              have hSW := hSw
              try dsimp only at hSW
              clear hSw
              simp only [List.take_succ_cons, List.take_zero, List.drop_succ_cons, List.drop_zero]
              repeat (go_big_quiet_step (fail))
              exact wpQuiet_nil rfl
            simp only [List.take_succ_cons, List.take_zero, List.drop_succ_cons, List.drop_zero]
            refine textI_call (by rfl) (by rfl) (fun K hK => ?_)
            go_simp
            all_goals (try (gi_wp2_with fail))
            refine hK.out _ _ (by exact ⟨far_ (far_ z1 q1) q1, far_ (far_ z2 q2) q2, far_ (far_ z3 q2) q2, far_ (far_ z4 q3) q3, Lib.hid (KL.out.trans (Keep.ext (Ext.refl _).drew.drew))⟩) (fun hHeld => ?_)
            clear hK K
            try simp only [Act.put, List.setIfInBounds_toArray, List.set_cons_zero, List.set_cons_succ]
            refine textI_done ?_
            clear hHeld
            gi_wp2
            rw [HUP2.out] at HIV2 ⊢
            have KX := KL.out.trans (Keep.ext (rs := [bn]) (c := 2) (Ext.refl _).drew.drew)
            exact ⟨KX, let ⟨r, h⟩ := HIV2.out; ⟨r, _, h⟩, HNF.out.ext (Ext.refl _).drew.drew, HMX.out.keep KX (by simp; exact fun e => q3 e.symm), HKX.out.trans KX⟩
          · have hd2 : decide (fv < fu + c) = false := decide_eq_false hp2
            have HUP2 := Lib.hid (show upd st.1 st' ((u, v), c) = st' from by rw [HUP.out, hd1, hd2]; rfl)
            refine wpIn_order (tk := takeB) (fun f => trivial) (fun Z : World => Z.cell? ⟨w.heap.size, 0, none⟩ = some (.pointer (some ⟨bn, 0, none⟩)) ∧ Z.cell? ⟨Bx, 0, none⟩ = some (.int .i64 (u : Int)) ∧ Z.cell? ⟨Bx, 1, none⟩ = some (.int .i64 (v : Int)) ∧ Z.cell? ⟨Br, u, none⟩ = some (.int .i64 fu) ∧ Z.cell? ⟨bn, 2 + v, none⟩ = some (.int .i64 fv) ∧ Hid (Ext X Z)) [0, 1, 2, 3, 4, 5, 6, 7, 8, 9, 10, 11, 12, 13, 14, 15, 16, 17, 18, 19, 20] (by kernel_rfl) (by kernel_rfl) (by kernel_rfl) (by exact ⟨e1, e2, e3, e4, e5, Lib.hid (Ext.refl _).drew⟩) (fun hHeld => ?_)
            simp only [opsIn, List.filterMap_cons, List.filterMap_nil, List.getElem?_toArray, List.getElem?_cons_succ, List.getElem?_cons_zero]
            refine' textI_chunk 21 (by kernel_rfl) hHeld ?ck7 ?cr7
            case ck7 =>
              intro W hSw
              have hSW := hSw
              try dsimp only at hSW
              clear hSw
              simp only [List.take_succ_cons, List.take_zero, List.drop_succ_cons, List.drop_zero]
              repeat (go_big_quiet_step (fail))
              exact wpQuiet_nil rfl
            simp only [List.take_succ_cons, List.take_zero, List.drop_succ_cons, List.drop_zero]
            refine textI_done ?_
            clear hHeld
            gi_wp2
            rw [HUP2.out] at HIV2 ⊢
            exact ⟨t0.out, let ⟨r, h⟩ := HIV2.out; ⟨r, _, h⟩, HNX.out.ext (Ext.refl _).drew, HMX.out.ext (Ext.refl _).drew, HKX.out.trans t0.out⟩
        · have hd1 : decide (0 < fu) = false := decide_eq_false hp1
          have HUP2 := Lib.hid (show upd st.1 st' ((u, v), c) = st' from by rw [HUP.out, hd1]; rfl)
          refine wpIn_order (tk := takeB) (fun f => trivial) (fun Z : World => Z.cell? ⟨w.heap.size, 0, none⟩ = some (.pointer (some ⟨bn, 0, none⟩)) ∧ Z.cell? ⟨Bx, 0, none⟩ = some (.int .i64 (u : Int)) ∧ Z.cell? ⟨Bx, 1, none⟩ = some (.int .i64 (v : Int)) ∧ Z.cell? ⟨Br, u, none⟩ = some (.int .i64 fu) ∧ Z.cell? ⟨bn, 2 + v, none⟩ = some (.int .i64 fv) ∧ Hid (Ext X Z)) [0, 1, 2, 3, 4, 5, 6, 7, 8, 9, 10, 11, 12, 13, 14, 15, 16, 17, 18, 19, 20] (by kernel_rfl) (by kernel_rfl) (by kernel_rfl) (by exact ⟨e1, e2, e3, e4, e5, Lib.hid (Ext.refl _).drew⟩) (fun hHeld => ?_)
          simp only [opsIn, List.filterMap_cons, List.filterMap_nil, List.getElem?_toArray, List.getElem?_cons_succ, List.getElem?_cons_zero]
          refine' textI_chunkH 6 (by kernel_rfl) hHeld ?ck2 ?cr2
          case ck2 =>
            intro W hSw
            have hSW := hSw
            try dsimp only at hSW
            clear hSw
            simp only [List.take_succ_cons, List.take_zero, List.drop_succ_cons, List.drop_zero]
            repeat (go_big_quiet_step (fail))
            exact wpQuiet_nil rfl
          simp only [List.take_succ_cons, List.take_zero, List.drop_succ_cons, List.drop_zero]
          refine textI_skipH (by kernel_rfl) ?_
          try simp only [Act.put, List.setIfInBounds_toArray, List.set_cons_zero, List.set_cons_succ]
          refine textI_skipH (by kernel_rfl) ?_
          try simp only [Act.put, List.setIfInBounds_toArray, List.set_cons_zero, List.set_cons_succ]
          refine textI_skipH (by kernel_rfl) ?_
          try simp only [Act.put, List.setIfInBounds_toArray, List.set_cons_zero, List.set_cons_succ]
          refine textI_skipH (by kernel_rfl) ?_
          try simp only [Act.put, List.setIfInBounds_toArray, List.set_cons_zero, List.set_cons_succ]
          refine textI_skipH (by kernel_rfl) ?_
          try simp only [Act.put, List.setIfInBounds_toArray, List.set_cons_zero, List.set_cons_succ]
          refine textI_skipH (by kernel_rfl) ?_
          try simp only [Act.put, List.setIfInBounds_toArray, List.set_cons_zero, List.set_cons_succ]
          refine textI_skipH (by kernel_rfl) ?_
          try simp only [Act.put, List.setIfInBounds_toArray, List.set_cons_zero, List.set_cons_succ]
          refine textI_skipH (by kernel_rfl) ?_
          try simp only [Act.put, List.setIfInBounds_toArray, List.set_cons_zero, List.set_cons_succ]
          refine textI_skipH (by kernel_rfl) ?_
          try simp only [Act.put, List.setIfInBounds_toArray, List.set_cons_zero, List.set_cons_succ]
          refine textI_skipH (by kernel_rfl) ?_
          try simp only [Act.put, List.setIfInBounds_toArray, List.set_cons_zero, List.set_cons_succ]
          refine textI_skipH (by kernel_rfl) ?_
          try simp only [Act.put, List.setIfInBounds_toArray, List.set_cons_zero, List.set_cons_succ]
          refine textI_skipH (by kernel_rfl) ?_
          try simp only [Act.put, List.setIfInBounds_toArray, List.set_cons_zero, List.set_cons_succ]
          refine textI_skipH (by kernel_rfl) ?_
          try simp only [Act.put, List.setIfInBounds_toArray, List.set_cons_zero, List.set_cons_succ]
          refine textI_skipH (by kernel_rfl) ?_
          try simp only [Act.put, List.setIfInBounds_toArray, List.set_cons_zero, List.set_cons_succ]
          refine BoxP.mk ?_
          refine' textI_chunk 1 (by kernel_rfl) hHeld ?ck3 ?cr3
          case ck3 =>
            intro W hSw
            have hSW := hSw
            try dsimp only at hSW
            clear hSw
            simp only [List.take_succ_cons, List.take_zero, List.drop_succ_cons, List.drop_zero]
            repeat (go_big_quiet_step (fail))
            exact wpQuiet_nil rfl
          simp only [List.take_succ_cons, List.take_zero, List.drop_succ_cons, List.drop_zero]
          refine textI_done ?_
          clear hHeld
          gi_wp2
          rw [HUP2.out] at HIV2 ⊢
          exact ⟨t0.out, let ⟨r, h⟩ := HIV2.out; ⟨r, _, h⟩, HNX.out.ext (Ext.refl _).drew, HMX.out.ext (Ext.refl _).drew, HKX.out.trans t0.out⟩
      case done =>
        rintro D ys X hD hS ⟨hiv, hnX, hmX, hkX⟩ hDW
        obtain ⟨M, hM, hrd⟩ := hRD.out.next HP.out (fun s hs => (HST.out s hs).2) hne2
        rw [hS] at hnX
        have HX := Lib.hid (HNA5.out.turn hkX hnX); have HRX := Lib.hid hmX.range; have HRD2 := Lib.hid hrd
        have HKX := Lib.hid (((hKP.out.new HK4.out (by omega) (by simp; omega)).trans (Keep.ext hE5)).trans hkX)
        have hM5 := HMK5.out.keep hkX (by simp; omega)
        have HM6 := Lib.hid (Marks.cons hM5 HMK5.out hD (by omega) hDW)
        clear hiv hnX hmX hkX hDW hrd hM5 hS
        go_wp2_with (first | (refine wpList_load_mid rfl 75 _ rfl Br 0 rfl (st.1.map (Value.int .i64)) _ HRX.out Try.underlying75 rfl HI.out ?_) | (refine wp_new75 rfl rfl 2 (.tmp 68) rfl rfl rfl st.1 HL2.out rfl rfl ?_; intro W7 hm7 hE7 hz7; have HM7 := Lib.hid hm7; have HE7 := Lib.hid hE7; clear hm7 hE7))
        have hsX := HKX.out.size
        exact ⟨M, hM, X.heap.size, st.1, roundM (stepsL row F) st, _, Fr64.mk, by omega, by omega, HM7, HRD2, Lib.hid (HX.out.ext HE7.out), Lib.hid (HKX.out.trans (Keep.ext HE7.out)), Lib.hid (HM6.out.keep (rs := []) (c := 0) (Keep.ext HE7.out) (by simp))⟩
end Go.Proofs.Ytclcippfodjfeaa
