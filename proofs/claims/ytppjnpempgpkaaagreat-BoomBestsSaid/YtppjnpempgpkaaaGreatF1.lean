/- The iterator over the sides that a way uses. -/
import Derived.Test.YtppjnpempgpkaaaGreatE0
import Derived.Test.YtppjnpempgpkaaaGreatC2
import Derived.Test.YtppjnpempgpkaaaGreatZM
import Derived.Sort.CutIn
namespace Go.Proofs.YtppjnpempgpkaaaGreat
open Go.RowKit Go.Shelf
set_option linter.unusedVariables false
set_option linter.unusedSimpArgs false
attribute [local go_sem] Oper.semAt_some
def encS (s : Sd) : Array Value := #[.agg #[.int .i64 (s.1 : Int), .int .i64 (s.2 : Int)]]
def Nbs (W H : Nat) (ws : List Nat) : Prop := ∀ i c d, ws[i]? = some c → ws[i + 1]? = some d → ∃ k, k < 4 ∧ bhP W H (c, k) = some d
def oI (o : Option Nat) : Int := match o with
  | some k => (k : Int)
  | none => -1
theorem usesW_step {G : Grid} {o : Option Nat} : ∀ {ws : List Nat} {i c d : Nat}, ws[i]? = some c → ws[i + 1]? = some d → (usesW G ws o)[i]? = some (c, btw G c d)
  | c' :: d' :: w, 0, c, d, hc, hd => by simp at hc hd; subst hc hd; rfl
  | c' :: d' :: w, i + 1, c, d, hc, hd => by
    show ((c', btw G c' d') :: usesW G (d' :: w) o)[i + 1]? = _
    rw [List.getElem?_cons_succ]
    exact usesW_step (by simpa using hc) (by simpa using hd)
  | [c'], i, c, d, hc, hd => by simp at hd
theorem usesW_none (G : Grid) : ∀ ws : List Nat, (usesW G ws none).length = ws.length - 1
  | [] => rfl
  | [c] => rfl
  | c :: d :: w => by
    show (_ :: usesW G (d :: w) none).length = _
    rw [List.length_cons, usesW_none G (d :: w)]; simp
theorem usesW_some (G : Grid) (k : Nat) : ∀ ws : List Nat, ws ≠ [] → (usesW G ws (some k)).length = ws.length ∧ (usesW G ws (some k))[ws.length - 1]? = some (lastN ws, k)
  | [], h => absurd rfl h
  | [c], _ => ⟨rfl, rfl⟩
  | c :: d :: w, _ => by
    obtain ⟨h1, h2⟩ := usesW_some G k (d :: w) (by simp)
    refine ⟨?_, ?_⟩
    · show (_ :: usesW G (d :: w) (some k)).length = _
      rw [List.length_cons, h1]; simp
    · show (_ :: usesW G (d :: w) (some k))[_]? = _
      rw [show (c :: d :: w).length - 1 = ((d :: w).length - 1) + 1 from by simp, List.getElem?_cons_succ, h2]
      simp [lastN]
theorem nx_of {W H c k d : Nat} (hW : W ≤ 8) (hH : H ≤ 8) (hc : c < W * H) (hk : k < 4) (hb : bhP W H (c, k) = some d) : nx W H c k = (d : Int) := by
  rcases nx_bound hW hH hc hk with h | ⟨d', h, hb', -⟩
  · rw [nx_none h] at hb; cases hb
  · rw [hb] at hb'; cases hb'; exact h
theorem btI_btw {G : Grid} {W H c k d : Nat} (hW : W ≤ 8) (hH : H ≤ 8) (hGn : G.n = W * H) (hGb : G.bh = bhP W H) (hc : c < W * H) (hk : k < 4) (hb : bhP W H (c, k) = some d) : btI W H c (d : Int) = btw G c d ∧ btw G c d < 4 := by
  have h1 : btw G c d = k := btw_is (by rw [hGn]; exact hc) hk (by rw [hGb]; exact hb)
  rw [h1]
  refine ⟨btI_to hk (nx_of hW hH hc hk hb) (fun j hj h => ?_), hk⟩
  have := G.one c j k d (by rw [hGn]; exact hc) (by omega) hk (by rw [hGb]; exact nx_some h) (by rw [hGb]; exact hb)
  omega
set_option maxRecDepth 100000 in
set_option maxHeartbeats 4000000 in
theorem uses_seq (W H nw cw nk ck : Nat) (aw ak : Option Addr) (G : Grid) (hGn : G.n = W * H) (hGb : G.bh = bhP W H) (ws : List Nat) (o : Option Nat) (v : Value) (f Bw Bp : Nat) (rs : List Nat) (b e : Nat) (w : World) (hf : 1 ≤ f) (hW : 1 ≤ W ∧ W ≤ 8) (hH : 1 ≤ H ∧ H ≤ 8) (hne : ws ≠ []) (hcells : ∀ x ∈ ws, x < W * H) (hnb : Nbs W H ws)
    (hw : w.heap[Bw]? = some (.cells #[v, .int .i64 (oI o)] 60 (0, 0))) (hp : w.heap[Bp]? = some (.cells #[.int .i64 (W : Int), .int .i64 (H : Int), .slice aw nw cw, .slice ak nk ck] 72 (0, 0))) (hread : ∀ Y, CellsT rs b e w Y → Reads Y v (natI ws)) (hnw : Bw ∉ rs) (hnp : Bp ∉ rs) (hrs : ∀ r ∈ rs, r < w.heap.size) (hew : 60 ≠ e ∨ Bw < b) (hep : 72 ≠ e ∨ Bp < b) (hes : 124 ≠ e) :
    SeqL f 118 #[.pointer (some ⟨Bw, 0, none⟩), .pointer (some ⟨Bp, 0, none⟩)] encS rs b e (usesW G ws o) w := by
  intro l J Jx W₁ hW₁ hJ hJx hY h0
  obtain ⟨hl, a, cap, e1, hcap, hc⟩ := hread w (fun _ _ _ _ h _ _ => h)
  have hnn : natI ws ≠ [] := by simpa [natI] using hne
  obtain ⟨ba, off, rfl, -⟩ := hc.resolve_left hnn
  clear hc
  subst e1
  obtain ⟨m, hm⟩ : ∃ m, ws.length = m + 1 := ⟨ws.length - 1, by have := List.length_pos_iff.2 hne; omega⟩
  rw [natI_len, hm] at hl hcap hw
  rw [natI_len, hm] at hread
  have HRD := Lib.hid (show ∀ Y, CellsT rs b e w Y → ∀ (i c : Nat), ws[i]? = some c → Y.cell? ⟨ba, off + i, none⟩ = some (.int .i64 (c : Int)) from fun Y hY i c hc => by
    have hi : i < (natI ws).length := by rw [natI_len]; exact (List.getElem?_eq_some_iff.1 hc).1
    obtain ⟨b', off', x, h1, h2, h3⟩ := (hread Y hY).at hi
    cases h1
    rw [natI_at hc] at h2
    cases h2
    exact h3)
  have HRE := Lib.hid hread
  have HY := Lib.hid hY; have HJ := Lib.hid hJ; have H0 := Lib.hid h0; have HJX := Lib.hid hJx; have HM := Lib.hid hm; have HNB := Lib.hid hnb; have HCL := Lib.hid hcells; have HRS := Lib.hid hrs; have HGN := Lib.hid hGn; have HGB := Lib.hid hGb
  have HB1 := Lib.hid (fun (Y : World) (hY : CellsT rs b e w Y) => hY Bw _ _ _ hw hnw hew); have HB2 := Lib.hid (fun (Y : World) (hY : CellsT rs b e w Y) => hY Bp _ _ _ hp hnp hep)
  have C0 := Lib.hid (show CellsT rs b e w W₁ from (KeepT.ext hW₁).cellsT); have Z0 := Lib.hid hW₁.size
  have hcap1 : m + 1 ≤ cap := hcap.1
  have hcap2 : cap ≤ 9223372036854775807 := hcap.2
  clear hY hJ h0 hJx hm hnb hcells hrs hGn hGb hw hp hread hcap hnw hnp hew hep hW₁
  obtain ⟨d0, d1⟩ := cells2 (HB1.out _ C0.out)
  have hm5 : m ≤ 5000 := by omega
  refine callsIn_of_wp Tryz.func118 rfl trivial ?_ rfl
  simp only [Tryz.ntmps118, List.size_toArray, List.length_cons, List.length_nil, Nat.reduceAdd, Nat.reduceSub, Array.replicate_succ, Array.replicate_zero, List.push_toArray, List.append_toArray, List.nil_append, List.cons_append]
  by_cases hc1 : cap = 1
  · subst hc1
    gi_wp2
    gi_loopw [12] (fun s wr => ∃ k : Nat, k ≤ m ∧ s = .int .i64 (k : Int) ∧ Hid (J k wr) ∧ Hid (CellsT rs b e w wr) ∧ Hid (w.heap.size ≤ wr.heap.size)) (fun s wr => m - (intOf s).toNat)
    case atStart => exact ⟨0, by omega, by go_num, H0, C0, Z0⟩
    case round =>
      obtain ⟨k, hk, rfl, hJw, hC, hSZ⟩ := hrel
      by_cases hlt : k < m
      · omega
      · obtain rfl : k = m := by omega
        have B1 := Lib.hid (HB1.out _ hC.out)
        cases o with
        | none =>
          obtain ⟨b0, b1⟩ := cells2 B1.out
          dsimp only [oI] at b1
          have hlen : (usesW G ws none).length = k := by rw [usesW_none, HM.out]; rfl
          clear d0 d1
          gi_wp2
          go_end0
          exact ⟨⟨_, rfl⟩, .inl (by rw [hlen]; exact hJw.out)⟩
        | some kk =>
          obtain ⟨b0, b1⟩ := cells2 B1.out
          dsimp only [oI] at b1 B1
          obtain ⟨hlen, hlast⟩ := usesW_some G kk ws hne
          rw [HM.out] at hlen hlast
          have HU := Lib.hid (show (usesW G ws (some kk))[k]? = some (lastN ws, kk) from hlast)
          have HLN := Lib.hid hlen
          have ga : ((kk : Int) == -1) = false := by simp
          have gb : decide ((kk : Int) = -1) = false := by simp
          have gc : ¬ ((kk : Int) = -1) := by omega
          have HRW := Lib.hid (HRE.out _ hC.out)
          clear d0 d1 hlen hlast
          gi_upto_region 7 with fail
          refine wpIn_order (tk := takeB) (fun f => trivial) (fun Y : World => Y.heap[Bw]? = some (.cells #[.slice (some ⟨ba, off, none⟩) (k + 1) 1, .int .i64 (kk : Int)] 60 (0, 0)) ∧ Reads Y (.slice (some ⟨ba, off, none⟩) (k + 1) 1) (natI ws)) [0, 1, 3, 4, 2, 5, 6] (by kernel_rfl) (by kernel_rfl) (by kernel_rfl) (by exact ⟨B1.out, HRW.out.ext (Ext.refl _).drew⟩) (fun hHeld => ?_)
          simp only [opsIn, List.filterMap_cons, List.filterMap_nil, List.getElem?_toArray, List.getElem?_cons_succ, List.getElem?_cons_zero]
          refine' textI_chunk 4 (by kernel_rfl) hHeld ?ck1 ?cr1
          case ck1 =>
            intro W hSw
            have hSW := hSw
            try dsimp only at hSW
            clear hSw
            obtain ⟨x0, x1⟩ := cells2 hSW.1
            simp only [List.take_succ_cons, List.take_zero, List.drop_succ_cons, List.drop_zero]
            repeat (go_big_quiet_step (fail))
            exact wpQuiet_nil rfl
          simp only [List.take_succ_cons, List.take_zero, List.drop_succ_cons, List.drop_zero]
          refine textI_call (by rfl) (by rfl) (fun K hK => ?_)
          go_simp
          refine ⟨trivial, (callsIn_wide.2 (end_c _ (kk : Int) ws _ (HRW.out.ext (Ext.refl _).drew) hne)).mono ?_⟩
          rintro e V1 ⟨rfl, he1⟩
          have HEE := Lib.hid he1
          have HV3 := Lib.hid ((Ext.refl wr).drew.trans he1)
          clear he1
          all_goals (try (gi_wp2_with fail))
          refine hK.out _ _ (by exact ⟨block_ext HEE.out hHeld.1, hHeld.2.ext HEE.out⟩) (fun hHeld => ?_)
          clear hK K
          try simp only [Act.put, List.setIfInBounds_toArray, List.set_cons_zero, List.set_cons_succ]
          refine' textI_chunk 1 (by kernel_rfl) hHeld ?ck2 ?cr2
          case ck2 =>
            intro W hSw
            have hSW := hSw
            try dsimp only at hSW
            clear hSw
            skip
            simp only [List.take_succ_cons, List.take_zero, List.drop_succ_cons, List.drop_zero]
            repeat (go_big_quiet_step (fail))
            exact wpQuiet_nil rfl
          simp only [List.take_succ_cons, List.take_zero, List.drop_succ_cons, List.drop_zero]
          obtain ⟨fn, tmps, assign, body, hyy, hR⟩ := HY.out k (lastN ws, kk) V1 HU.out (abides HJ.out hJw.out HV3.out)
          have HR := Lib.hid hR
          simp only [encS] at hyy
          have HC3 := Lib.hid (hC.out.trans (KeepT.ext HV3.out).cellsT)
          clear hR
          refine textI_call (by rfl) (by rfl) (fun K hK => ?_)
          go_simp
          refine RoundIn.mono HR.out ?_
          rintro e v1 (⟨rfl, hJn, hKn⟩ | ⟨rfl, hJn, hKn⟩)
          · have HJ1 := Lib.hid hJn; have HC1 := Lib.hid (HC3.out.trans hKn.cellsT)
            clear hyy HR hJn hKn
            all_goals (try (gi_wp2_with fail))
            refine hK.out _ _ (by exact ⟨HB1.out _ HC1.out, HRE.out _ HC1.out⟩) (fun hHeld => ?_)
            clear hK K
            try simp only [Act.put, List.setIfInBounds_toArray, List.set_cons_zero, List.set_cons_succ]
            refine textI_done ?_
            clear hHeld
            gi_wp2
            go_end0
            exact ⟨⟨_, rfl⟩, .inl (by rw [HLN.out]; exact HJ1.out)⟩
          · have HJ1 := Lib.hid hJn; have HC1 := Lib.hid (HC3.out.trans hKn)
            clear hyy HR hJn hKn
            all_goals (try (gi_wp2_with fail))
            refine hK.out _ _ (by exact ⟨HB1.out _ HC1.out, HRE.out _ HC1.out⟩) (fun hHeld => ?_)
            clear hK K
            try simp only [Act.put, List.setIfInBounds_toArray, List.set_cons_zero, List.set_cons_succ]
            refine textI_done ?_
            clear hHeld
            gi_wp2
            go_end0
            exact ⟨⟨_, rfl⟩, .inr ⟨k, by rw [HLN.out]; omega, HJ1.out⟩⟩
  · gi_wp2
    gi_loopw [12] (fun s wr => ∃ k : Nat, k ≤ m ∧ s = .int .i64 (k : Int) ∧ Hid (J k wr) ∧ Hid (CellsT rs b e w wr) ∧ Hid (w.heap.size ≤ wr.heap.size)) (fun s wr => m - (intOf s).toNat)
    case atStart => exact ⟨0, by omega, by go_num, H0, C0, Z0⟩
    case round =>
      obtain ⟨k, hk, rfl, hJw, hC, hSZ⟩ := hrel
      by_cases hlt : k < m
      · have hki : k + 1 < ws.length := by have := HM.out; omega
        obtain ⟨c, hc⟩ : ∃ c, ws[k]? = some c := ⟨ws[k], List.getElem?_eq_getElem (by omega)⟩
        obtain ⟨d, hd⟩ : ∃ d, ws[k + 1]? = some d := ⟨ws[k + 1], List.getElem?_eq_getElem hki⟩
        have hcn := HCL.out c (List.mem_of_getElem? hc)
        obtain ⟨kk, hk4, hbk⟩ := HNB.out k c d hc hd
        obtain ⟨bt1, bt2⟩ := btI_btw hW.2 hH.2 HGN.out HGB.out hcn hk4 hbk
        have hu := usesW_step (G := G) (o := o) hc hd
        obtain ⟨bt, hbt⟩ : ∃ bt, bt = btw G c d := ⟨_, rfl⟩
        rw [← hbt] at bt1 bt2 hu
        have hBT := fun X => between_c W H nw cw nk ck aw ak c (d : Int) X hW hH hcn
        rw [bt1, if_pos bt2, if_pos bt2, decide_eq_true bt2] at hBT
        have HBT := Lib.hid hBT
        have HU := Lib.hid hu
        have c1 := Lib.hid (HRD.out _ hC.out k c hc)
        have c2 := HRD.out _ hC.out (k + 1) d hd
        rw [show off + (k + 1) = off + 1 + k from by omega] at c2
        have ga : (0 : Int) ≤ (k : Int) := by omega
        have gb : (k : Int) < (m : Int) := by omega
        have gc : (k : Int).toNat = k := by omega
        have gd : (k : Int) < ((m + 1 : Nat) : Int) := by omega
        have ge : (k : Int) < (m : Int) + 1 := by omega
        have B1 := Lib.hid (HB1.out _ hC.out); have B2 := Lib.hid (HB2.out _ hC.out)
        clear hc hd hu hBT bt1 hbk hbt d0 d1
        gi_upto_region 3 with fail
        clear c2
        refine wpIn_order2 (tk := takeB) (fun f => trivial) (fun Y : World => Y.heap[Bw]? = some (.cells #[.slice (some ⟨ba, off, none⟩) (m + 1) cap, .int .i64 (oI o)] 60 (0, 0)) ∧ Y.heap[Bp]? = some (.cells #[.int .i64 (W : Int), .int .i64 (H : Int), .slice aw nw cw, .slice ak nk ck] 72 (0, 0)) ∧ Y.cell? ⟨ba, off + k, none⟩ = some (.int .i64 (c : Int))) [0, 1, 2, 3, 4, 5, 6] 7 [8, 9, 10, 11, 12, 13] 11 [7, 8, 9, 10, 12, 13] (by kernel_rfl) (by kernel_rfl) (by kernel_rfl) (by exact ⟨B1.out, B2.out, c1.out⟩) (fun hHeld => ?_) (fun hHeld => ?_)
        · simp only [List.cons_append, List.nil_append]
          simp only [opsIn, List.filterMap_cons, List.filterMap_nil, List.getElem?_toArray, List.getElem?_cons_succ, List.getElem?_cons_zero]
          refine' textI_chunk 7 (by kernel_rfl) hHeld ?ck3 ?cr3
          case ck3 =>
            intro W hSw
            have hSW := hSw
            try dsimp only at hSW
            clear hSw
            obtain ⟨s1, s2, s3⟩ := hSW
            obtain ⟨d0, d1⟩ := cells2 s1
            obtain ⟨p0, p1, p2, p3⟩ := cells4 s2
            simp only [List.take_succ_cons, List.take_zero, List.drop_succ_cons, List.drop_zero]
            repeat (go_big_quiet_step (fail))
            exact wpQuiet_nil rfl
          simp only [List.take_succ_cons, List.take_zero, List.drop_succ_cons, List.drop_zero]
          refine textI_call (by rfl) (by rfl) (fun K hK => ?_)
          go_simp
          refine ⟨trivial, (callsIn_wide.2 (HBT.out _)).mono ?_⟩
          rintro e V1 ⟨rfl, he1⟩
          have HEE := Lib.hid he1
          have HV1 := Lib.hid ((Ext.refl wr).drew.trans he1)
          clear he1
          all_goals (try (gi_wp2_with fail))
          refine hK.out _ _ (by exact ⟨block_ext HEE.out hHeld.1, block_ext HEE.out hHeld.2.1, cell_ext HEE.out hHeld.2.2⟩) (fun hHeld => ?_)
          clear hK K
          try simp only [Act.put, List.setIfInBounds_toArray, List.set_cons_zero, List.set_cons_succ]
          refine' textI_chunk 3 (by kernel_rfl) hHeld ?ck4 ?cr4
          case ck4 =>
            intro W hSw
            have hSW := hSw
            try dsimp only at hSW
            clear hSw
            obtain ⟨s1, s2, s3⟩ := hSW
            obtain ⟨d0, d1⟩ := cells2 s1
            obtain ⟨p0, p1, p2, p3⟩ := cells4 s2
            simp only [List.take_succ_cons, List.take_zero, List.drop_succ_cons, List.drop_zero]
            repeat (go_big_quiet_step (fail))
            exact wpQuiet_nil rfl
          simp only [List.take_succ_cons, List.take_zero, List.drop_succ_cons, List.drop_zero]
          refine textI_call (by rfl) (by rfl) (fun K hK => ?_)
          go_simp
          obtain ⟨V2, hV2⟩ : ∃ V2, V2 = V1.alloc (.cells #[.int .i64 0, .int .i64 0] 124) := ⟨_, rfl⟩
          have hee : Ext V1 V2 := by rw [hV2]; exact (Ext.refl _).alloc _
          have HEE := Lib.hid hee
          have HV2 := Lib.hid (Ext.trans (HV1.out) hee)
          have hzb : V2.heap[V1.heap.size]? = some (.cells #[.int .i64 0, .int .i64 0] 124 (0, 0)) := by rw [hV2]; exact heap_alloc_new V1 _
          have hnw : wr.heap.size ≤ V1.heap.size := (HV1.out).size
          have ZB := Lib.hid hzb
          rw [← hV2]
          clear hV2 hee hzb
          all_goals (try (gi_wp2_with fail))
          refine hK.out _ _ (by exact ⟨block_ext HEE.out hHeld.1, block_ext HEE.out hHeld.2.1, cell_ext HEE.out hHeld.2.2⟩) (fun hHeld => ?_)
          clear hK K
          try simp only [Act.put, List.setIfInBounds_toArray, List.set_cons_zero, List.set_cons_succ]
          refine textI_call_more (by rfl) (by rfl) (fun K hK => ?_)
          obtain ⟨z0, z1⟩ := cells2 ZB.out
          have y0 := frozen_of_blk ZB.out 0
          have y1 := frozen_of_blk ZB.out 1
          go_simp
          obtain ⟨V3, hV3⟩ : ∃ V3, V3 = (V2.setCell ⟨V1.heap.size, 0, none⟩ (.int .i64 (c : Int))).setCell ⟨V1.heap.size, 1, none⟩ (.int .i64 (bt : Int)) := ⟨_, rfl⟩
          have h3 : Ext wr V3 := by rw [hV3]; exact (Ext.set (HV1.out.trans HEE.out) hnw _ _).set hnw _ _
          have h4 : V3.heap[V1.heap.size]? = some (.cells #[.int .i64 (c : Int), .int .i64 (bt : Int)] 124 (0, 0)) := by rw [hV3]; exact set2 ZB.out _ _
          rw [← hV3]
          clear z0 z1 y0 y1 hV3
          refine hK.out (fun Y => ((fun Y : World => Y.heap[Bw]? = some (.cells #[.slice (some ⟨ba, off, none⟩) (m + 1) cap, .int .i64 (oI o)] 60 (0, 0)) ∧ Y.heap[Bp]? = some (.cells #[.int .i64 (W : Int), .int .i64 (H : Int), .slice aw nw cw, .slice ak nk ck] 72 (0, 0)) ∧ Y.cell? ⟨ba, off + k, none⟩ = some (.int .i64 (c : Int))) Y ∧ Y.heap[V1.heap.size]? = some (.cells #[.int .i64 (c : Int), .int .i64 (bt : Int)] 124 (0, 0))) ∧ Hid (Ext wr V3)) _ _ (fun Y h => h.1.1) ⟨⟨⟨block_ext h3 B1.out, block_ext h3 B2.out, cell_ext h3 c1.out⟩, h4⟩, Lib.hid h3⟩ (fun hHeld => ?_)
          clear hK K
          try simp only [Act.put, List.setIfInBounds_toArray, List.set_cons_zero, List.set_cons_succ]
          refine' textI_chunk 1 (by kernel_rfl) hHeld ?ck5 ?cr5
          case ck5 =>
            intro W hSw
            have hSW := hSw
            try dsimp only at hSW
            clear hSw
            skip
            simp only [List.take_succ_cons, List.take_zero, List.drop_succ_cons, List.drop_zero]
            repeat (go_big_quiet_step (fail))
            exact wpQuiet_nil rfl
          simp only [List.take_succ_cons, List.take_zero, List.drop_succ_cons, List.drop_zero]
          refine textI_done ?_
          have HV3 := hHeld.2
          have HBS := Lib.hid hHeld.1.2
          have HC3 := Lib.hid (hC.out.trans (KeepT.ext HV3.out).cellsT)
          clear hHeld
          obtain ⟨s0, s1⟩ := cells2 HBS.out
          obtain ⟨fn, tmps, assign, body, hyy, hR⟩ := HY.out k (c, bt) V3 HU.out (abides HJ.out hJw.out HV3.out)
          have HR := Lib.hid hR
          simp only [encS] at hyy
          clear hR
          gi_wp2_with fail
          refine RoundIn.mono HR.out ?_
          rintro e v1 (⟨rfl, hJn, hKn⟩ | ⟨rfl, hJn, hKn⟩)
          · have HJ1 := Lib.hid hJn; have HC1 := Lib.hid (HC3.out.trans hKn.cellsT)
            have HS1 := Lib.hid (show w.heap.size ≤ v1.heap.size from by have := hKn.size; have := HV3.out.size; have := hSZ.out; omega)
            clear hyy HR hJn hKn
            gi_wp2
            go_roundw
            case rel => exact ⟨k + 1, by omega, by go_num, HJ1, HC1, HS1⟩
            case measure => simp [intOf]; omega
          · have HJ1 := Lib.hid hJn
            clear hyy HR hJn hKn
            gi_wp2
            refine bodyPost_ret (results_none rfl _ _ _) rfl ?_
            exact ⟨⟨_, rfl⟩, .inr ⟨k, (List.getElem?_eq_some_iff.1 HU.out).1, HJ1.out⟩⟩
        · simp only [List.cons_append, List.nil_append]
          simp only [opsIn, List.filterMap_cons, List.filterMap_nil, List.getElem?_toArray, List.getElem?_cons_succ, List.getElem?_cons_zero]
          refine' textI_chunk 7 (by kernel_rfl) hHeld ?ck6 ?cr6
          case ck6 =>
            intro W hSw
            have hSW := hSw
            try dsimp only at hSW
            clear hSw
            obtain ⟨s1, s2, s3⟩ := hSW
            obtain ⟨d0, d1⟩ := cells2 s1
            obtain ⟨p0, p1, p2, p3⟩ := cells4 s2
            simp only [List.take_succ_cons, List.take_zero, List.drop_succ_cons, List.drop_zero]
            repeat (go_big_quiet_step (fail))
            exact wpQuiet_nil rfl
          simp only [List.take_succ_cons, List.take_zero, List.drop_succ_cons, List.drop_zero]
          refine textI_call (by rfl) (by rfl) (fun K hK => ?_)
          go_simp
          obtain ⟨V2, hV2⟩ : ∃ V2, V2 = (wr.alloc (.cells #[.int .i64 0, .int .i64 0] 124)).drew := ⟨_, rfl⟩
          have hee : Ext wr V2 := by rw [hV2]; exact ((Ext.refl _).alloc _).drew
          have HEE := Lib.hid hee
          have HV2 := Lib.hid (Ext.trans (Ext.refl wr) hee)
          have hzb : V2.heap[wr.heap.size]? = some (.cells #[.int .i64 0, .int .i64 0] 124 (0, 0)) := by rw [hV2]; exact heap_alloc_new wr _
          have hnw : wr.heap.size ≤ wr.heap.size := (Ext.refl wr).size
          have ZB := Lib.hid hzb
          rw [← hV2]
          clear hV2 hee hzb
          all_goals (try (gi_wp2_with fail))
          refine hK.out _ _ (by exact ⟨block_ext HEE.out hHeld.1, block_ext HEE.out hHeld.2.1, cell_ext HEE.out hHeld.2.2⟩) (fun hHeld => ?_)
          clear hK K
          try simp only [Act.put, List.setIfInBounds_toArray, List.set_cons_zero, List.set_cons_succ]
          refine textI_call (by rfl) (by rfl) (fun K hK => ?_)
          go_simp
          refine ⟨trivial, (callsIn_wide.2 (HBT.out _)).mono ?_⟩
          rintro e V1 ⟨rfl, he1⟩
          have HEE := Lib.hid he1
          have HV1 := Lib.hid (HV2.out.trans he1)
          clear he1
          all_goals (try (gi_wp2_with fail))
          refine hK.out _ _ (by exact ⟨block_ext HEE.out hHeld.1, block_ext HEE.out hHeld.2.1, cell_ext HEE.out hHeld.2.2⟩) (fun hHeld => ?_)
          clear hK K
          try simp only [Act.put, List.setIfInBounds_toArray, List.set_cons_zero, List.set_cons_succ]
          have ZB := Lib.hid (block_ext HEE.out ZB.out)
          refine' textI_chunk 3 (by kernel_rfl) hHeld ?ck7 ?cr7
          case ck7 =>
            intro W hSw
            have hSW := hSw
            try dsimp only at hSW
            clear hSw
            obtain ⟨s1, s2, s3⟩ := hSW
            obtain ⟨d0, d1⟩ := cells2 s1
            obtain ⟨p0, p1, p2, p3⟩ := cells4 s2
            simp only [List.take_succ_cons, List.take_zero, List.drop_succ_cons, List.drop_zero]
            repeat (go_big_quiet_step (fail))
            exact wpQuiet_nil rfl
          simp only [List.take_succ_cons, List.take_zero, List.drop_succ_cons, List.drop_zero]
          refine textI_call_more (by rfl) (by rfl) (fun K hK => ?_)
          obtain ⟨z0, z1⟩ := cells2 ZB.out
          have y0 := frozen_of_blk ZB.out 0
          have y1 := frozen_of_blk ZB.out 1
          go_simp
          obtain ⟨V3, hV3⟩ : ∃ V3, V3 = (V1.setCell ⟨wr.heap.size, 0, none⟩ (.int .i64 (c : Int))).setCell ⟨wr.heap.size, 1, none⟩ (.int .i64 (bt : Int)) := ⟨_, rfl⟩
          have h3 : Ext wr V3 := by rw [hV3]; exact (Ext.set (HV1.out) hnw _ _).set hnw _ _
          have h4 : V3.heap[wr.heap.size]? = some (.cells #[.int .i64 (c : Int), .int .i64 (bt : Int)] 124 (0, 0)) := by rw [hV3]; exact set2 ZB.out _ _
          rw [← hV3]
          clear z0 z1 y0 y1 hV3
          refine hK.out (fun Y => ((fun Y : World => Y.heap[Bw]? = some (.cells #[.slice (some ⟨ba, off, none⟩) (m + 1) cap, .int .i64 (oI o)] 60 (0, 0)) ∧ Y.heap[Bp]? = some (.cells #[.int .i64 (W : Int), .int .i64 (H : Int), .slice aw nw cw, .slice ak nk ck] 72 (0, 0)) ∧ Y.cell? ⟨ba, off + k, none⟩ = some (.int .i64 (c : Int))) Y ∧ Y.heap[wr.heap.size]? = some (.cells #[.int .i64 (c : Int), .int .i64 (bt : Int)] 124 (0, 0))) ∧ Hid (Ext wr V3)) _ _ (fun Y h => h.1.1) ⟨⟨⟨block_ext h3 B1.out, block_ext h3 B2.out, cell_ext h3 c1.out⟩, h4⟩, Lib.hid h3⟩ (fun hHeld => ?_)
          clear hK K
          try simp only [Act.put, List.setIfInBounds_toArray, List.set_cons_zero, List.set_cons_succ]
          refine' textI_chunk 1 (by kernel_rfl) hHeld ?ck8 ?cr8
          case ck8 =>
            intro W hSw
            have hSW := hSw
            try dsimp only at hSW
            clear hSw
            skip
            simp only [List.take_succ_cons, List.take_zero, List.drop_succ_cons, List.drop_zero]
            repeat (go_big_quiet_step (fail))
            exact wpQuiet_nil rfl
          simp only [List.take_succ_cons, List.take_zero, List.drop_succ_cons, List.drop_zero]
          refine textI_done ?_
          have HV3 := hHeld.2
          have HBS := Lib.hid hHeld.1.2
          have HC3 := Lib.hid (hC.out.trans (KeepT.ext HV3.out).cellsT)
          clear hHeld
          obtain ⟨s0, s1⟩ := cells2 HBS.out
          obtain ⟨fn, tmps, assign, body, hyy, hR⟩ := HY.out k (c, bt) V3 HU.out (abides HJ.out hJw.out HV3.out)
          have HR := Lib.hid hR
          simp only [encS] at hyy
          clear hR
          gi_wp2_with fail
          refine RoundIn.mono HR.out ?_
          rintro e v1 (⟨rfl, hJn, hKn⟩ | ⟨rfl, hJn, hKn⟩)
          · have HJ1 := Lib.hid hJn; have HC1 := Lib.hid (HC3.out.trans hKn.cellsT)
            have HS1 := Lib.hid (show w.heap.size ≤ v1.heap.size from by have := hKn.size; have := HV3.out.size; have := hSZ.out; omega)
            clear hyy HR hJn hKn
            gi_wp2
            go_roundw
            case rel => exact ⟨k + 1, by omega, by go_num, HJ1, HC1, HS1⟩
            case measure => simp [intOf]; omega
          · have HJ1 := Lib.hid hJn
            clear hyy HR hJn hKn
            gi_wp2
            refine bodyPost_ret (results_none rfl _ _ _) rfl ?_
            exact ⟨⟨_, rfl⟩, .inr ⟨k, (List.getElem?_eq_some_iff.1 HU.out).1, HJ1.out⟩⟩
      · obtain rfl : k = m := by omega
        have B1 := Lib.hid (HB1.out _ hC.out)
        cases o with
        | none =>
          obtain ⟨b0, b1⟩ := cells2 B1.out
          dsimp only [oI] at b1
          have hlen : (usesW G ws none).length = k := by rw [usesW_none, HM.out]; rfl
          clear d0 d1
          gi_wp2
          go_end0
          exact ⟨⟨_, rfl⟩, .inl (by rw [hlen]; exact hJw.out)⟩
        | some kk =>
          obtain ⟨b0, b1⟩ := cells2 B1.out
          dsimp only [oI] at b1 B1
          obtain ⟨hlen, hlast⟩ := usesW_some G kk ws hne
          rw [HM.out] at hlen hlast
          have HU := Lib.hid (show (usesW G ws (some kk))[k]? = some (lastN ws, kk) from hlast)
          have HLN := Lib.hid hlen
          have ga : ((kk : Int) == -1) = false := by simp
          have gb : decide ((kk : Int) = -1) = false := by simp
          have gc : ¬ ((kk : Int) = -1) := by omega
          have HRW := Lib.hid (HRE.out _ hC.out)
          clear d0 d1 hlen hlast
          gi_upto_region 7 with fail
          refine wpIn_order (tk := takeB) (fun f => trivial) (fun Y : World => Y.heap[Bw]? = some (.cells #[.slice (some ⟨ba, off, none⟩) (k + 1) cap, .int .i64 (kk : Int)] 60 (0, 0)) ∧ Reads Y (.slice (some ⟨ba, off, none⟩) (k + 1) cap) (natI ws)) [0, 1, 3, 4, 2, 5, 6] (by kernel_rfl) (by kernel_rfl) (by kernel_rfl) (by exact ⟨B1.out, HRW.out.ext (Ext.refl _).drew⟩) (fun hHeld => ?_)
          simp only [opsIn, List.filterMap_cons, List.filterMap_nil, List.getElem?_toArray, List.getElem?_cons_succ, List.getElem?_cons_zero]
          refine' textI_chunk 4 (by kernel_rfl) hHeld ?ck9 ?cr9
          case ck9 =>
            intro W hSw
            have hSW := hSw
            try dsimp only at hSW
            clear hSw
            obtain ⟨x0, x1⟩ := cells2 hSW.1
            simp only [List.take_succ_cons, List.take_zero, List.drop_succ_cons, List.drop_zero]
            repeat (go_big_quiet_step (fail))
            exact wpQuiet_nil rfl
          simp only [List.take_succ_cons, List.take_zero, List.drop_succ_cons, List.drop_zero]
          refine textI_call (by rfl) (by rfl) (fun K hK => ?_)
          go_simp
          refine ⟨trivial, (callsIn_wide.2 (end_c _ (kk : Int) ws _ (HRW.out.ext (Ext.refl _).drew) hne)).mono ?_⟩
          rintro e V1 ⟨rfl, he1⟩
          have HEE := Lib.hid he1
          have HV3 := Lib.hid ((Ext.refl wr).drew.trans he1)
          clear he1
          all_goals (try (gi_wp2_with fail))
          refine hK.out _ _ (by exact ⟨block_ext HEE.out hHeld.1, hHeld.2.ext HEE.out⟩) (fun hHeld => ?_)
          clear hK K
          try simp only [Act.put, List.setIfInBounds_toArray, List.set_cons_zero, List.set_cons_succ]
          refine' textI_chunk 1 (by kernel_rfl) hHeld ?ck10 ?cr10
          case ck10 =>
            intro W hSw
            have hSW := hSw
            try dsimp only at hSW
            clear hSw
            skip
            simp only [List.take_succ_cons, List.take_zero, List.drop_succ_cons, List.drop_zero]
            repeat (go_big_quiet_step (fail))
            exact wpQuiet_nil rfl
          simp only [List.take_succ_cons, List.take_zero, List.drop_succ_cons, List.drop_zero]
          obtain ⟨fn, tmps, assign, body, hyy, hR⟩ := HY.out k (lastN ws, kk) V1 HU.out (abides HJ.out hJw.out HV3.out)
          have HR := Lib.hid hR
          simp only [encS] at hyy
          have HC3 := Lib.hid (hC.out.trans (KeepT.ext HV3.out).cellsT)
          clear hR
          refine textI_call (by rfl) (by rfl) (fun K hK => ?_)
          go_simp
          refine RoundIn.mono HR.out ?_
          rintro e v1 (⟨rfl, hJn, hKn⟩ | ⟨rfl, hJn, hKn⟩)
          · have HJ1 := Lib.hid hJn; have HC1 := Lib.hid (HC3.out.trans hKn.cellsT)
            clear hyy HR hJn hKn
            all_goals (try (gi_wp2_with fail))
            refine hK.out _ _ (by exact ⟨HB1.out _ HC1.out, HRE.out _ HC1.out⟩) (fun hHeld => ?_)
            clear hK K
            try simp only [Act.put, List.setIfInBounds_toArray, List.set_cons_zero, List.set_cons_succ]
            refine textI_done ?_
            clear hHeld
            gi_wp2
            go_end0
            exact ⟨⟨_, rfl⟩, .inl (by rw [HLN.out]; exact HJ1.out)⟩
          · have HJ1 := Lib.hid hJn; have HC1 := Lib.hid (HC3.out.trans hKn)
            clear hyy HR hJn hKn
            all_goals (try (gi_wp2_with fail))
            refine hK.out _ _ (by exact ⟨HB1.out _ HC1.out, HRE.out _ HC1.out⟩) (fun hHeld => ?_)
            clear hK K
            try simp only [Act.put, List.setIfInBounds_toArray, List.set_cons_zero, List.set_cons_succ]
            refine textI_done ?_
            clear hHeld
            gi_wp2
            go_end0
            exact ⟨⟨_, rfl⟩, .inr ⟨k, by rw [HLN.out]; omega, HJ1.out⟩⟩
end Go.Proofs.YtppjnpempgpkaaaGreat
