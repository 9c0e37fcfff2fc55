/- parts' closure: what it yields. -/
import Derived.Test.YtcgheakadfjofaaB9
namespace Go.Proofs.Ytcgheakadfjofaa
open Go.RowKit Go.Shelf
set_option linter.unusedVariables false
set_option linter.unusedSimpArgs false
attribute [local go_sem] Oper.semAt_some
theorem abides_ext {α : Type} {B : Nat} {J : List α → World → Prop} (hJ : AbidesFrom B J) {pre : List α} {A C : World} (h : J pre A) (hE : Ext A C) : J pre C := hJ pre A C none h (grown_ext hE none) (fun r e => by cases e)
set_option maxRecDepth 100000 in
set_option maxHeartbeats 4000000 in
theorem parts90 (F : Nat → Nat → Int) (n f l Bp By b i : Nat) (vt vb : Value) (th bd : List Int) (r : Rl) (ps : List Int) (rs : List Nat) (hv : Vw th bd r) (hF : F = sF th bd r) (hn : th.length = n + 1) (hf : 1 ≤ f) (w₀ : World) (hy : YardAt w₀ b vt vb th bd r ps)
    (J Jx : List (PartOf F n i) → World → Prop) (W : World) (hW : Ext w₀ W) (hrs : ∀ r ∈ rs, w₀.heap.size ≤ r ∧ r < W.heap.size) (hpr : Bp ∉ rs ∧ By ∉ rs) (hi : i < 61)
    (hJ : AbidesFrom W.heap.size J) (hJx : AbidesFrom W.heap.size Jx)
    (hY : ∀ pre x W1, J pre W1 → pre.length < 200 → YieldAt Fence.wide (f - 1) Try.prog l (encT F n i x) W1 fun e W' =>
      (e = .returned (.bool true) ∧ J (pre ++ [x]) W' ∧ KeepC rs W1 W') ∨ (e = .returned (.bool false) ∧ Jx (pre ++ [x]) W'))
    (hp : W.cell? ⟨Bp, 0, none⟩ = some (.int .i64 (i : Int))) (hq : W.cell? ⟨By, 0, none⟩ = some (.pointer (some ⟨b, 0, none⟩))) (h0 : J [] W) :
    CallsIn Fence.wide f Try.prog 90 #[.func (.yield l) #[] #[], .pointer (some ⟨Bp, 0, none⟩), .pointer (some ⟨By, 0, none⟩)] W fun e W' => (∃ v, e = .returned v) ∧
      ((∃ ys, pv F n i ys = partsL F n i ∧ J ys W') ∨ (∃ pre, pv F n i pre <+: partsL F n i ∧ Jx pre W')) := by
  obtain ⟨hl, a, cap, rfl⟩ := hy.th.shape
  have hth := hv.most
  have hFC : ∀ k : Nat, i < k → k < n + 1 → ∀ X : World, YardAt X b (.slice a th.length cap) vb th bd r ps → Calls Try.prog 52 #[.pointer (some ⟨b, 0, none⟩), .agg #[.int .i64 (i : Int), .int .i64 (k : Int)]] X fun e w' => e = .returned (.int .i64 (F i k)) ∧ Ext X w' :=
    fun k h1 h2 X hX => by rw [hF]; exact feet52 b _ vb th bd r ps i k X hX hv h1 (by omega)
  rw [hn] at hFC hy hth hl
  have HFC := Lib.hid hFC; have HY := Lib.hid hy; have HYD := Lib.hid hY
  have hrs1 : ∀ r ∈ rs, w₀.heap.size ≤ r := fun r hr => (hrs r hr).1
  have HRS := Lib.hid hrs; have HRS1 := Lib.hid hrs1; have HPR := Lib.hid hpr; have HJ := Lib.hid hJ; have HJX := Lib.hid hJx
  clear hv hF hn hl hFC hy hrs hrs1 hpr hJ hJx hY
  refine callsIn_of_wp Try.func90 rfl trivial ?_ rfl
  simp only [Try.ntmps90, List.size_toArray, List.length_cons, List.length_nil, Nat.reduceAdd, Nat.reduceSub, Array.replicate_succ, Array.replicate_zero, List.push_toArray, List.append_toArray, List.nil_append, List.cons_append]
  gi_wp2
  gi_loopw [4] (fun s wr => ∃ (pre : List (PartOf F n i)) (k : Nat), i + 1 ≤ k ∧ (k ≤ n + 1 ∨ k = i + 1) ∧ s = .int .i64 (k : Int) ∧ Hid (pv F n i pre = partsTo F i k) ∧ Hid (J pre wr) ∧ Hid (KeepC rs W wr))
    (fun s wr => n + 1 - (intOf s).toNat)
  case atStart => exact ⟨[], i + 1, Nat.le_refl _, .inr rfl, by go_num, (by rw [partsTo_first]; rfl : _ = _), h0, KeepC.refl _ _⟩
  case round =>
    obtain ⟨pre, k, hk1, hk2, rfl, hpv, hJw, hK⟩ := hrel
    have g1 := hK.out.cell HPR.out.1 hp
    have g2 := hK.out.cell HPR.out.2 hq
    have hyw := HY.out.keep hW hK.out HRS1.out
    obtain ⟨c0, -⟩ := hyw.cells
    have HYW := Lib.hid hyw; clear hyw
    by_cases hlt : k < n + 1
    · have hk61 : k ≤ 61 := by omega
      have hpl : pre.length ≤ k := by
        have h3 := partsTo_len F i k
        rw [← hpv.out, pv_len] at h3; exact h3
      have hsucc := partsTo_succ F i k hk1
      have hx0 : ∀ h : k = i + 1, ((k, 0) : Nat × Int) ∈ partsL F n i := fun h => mem_partsL.2 (.inl ⟨by omega, by rw [h]⟩)
      have hx1 : 0 < F i k → ((k, F i k) : Nat × Int) ∈ partsL F n i := fun h => mem_partsL.2 (.inr ⟨by dsimp only; omega, by dsimp only; omega, h, rfl⟩)
      have hpk : partsTo F i (k + 1) <+: partsL F n i := by rw [← partsTo_all]; exact partsTo_pre F i (by omega)
      have h52 := HFC.out k (by omega) hlt
      obtain ⟨fv, hfv⟩ : ∃ fv, fv = F i k := ⟨_, rfl⟩
      rw [← hfv] at hsucc hx1 h52
      have H52 := Lib.hid h52; have HS := Lib.hid hsucc; have HX0 := Lib.hid hx0; have HX1 := Lib.hid hx1; have HPK := Lib.hid hpk
      clear h52 hsucc hx0 hx1 hpk hfv
      have hE1 : Ext wr (wr.alloc (.cells #[.int .i64 (i : Int), .int .i64 (k : Int)] 29)) := (Ext.refl wr).alloc _
      obtain ⟨W1, hW1⟩ : ∃ W1, W1 = wr.alloc (.cells #[.int .i64 (i : Int), .int .i64 (k : Int)] 29) := ⟨_, rfl⟩
      have d0 : W1.cell? ⟨wr.heap.size, 0, none⟩ = some (.int .i64 (i : Int)) := by rw [hW1]; exact World.cell?_alloc_at _ _ _ _ rfl
      have d1 : W1.cell? ⟨wr.heap.size, 1, none⟩ = some (.int .i64 (k : Int)) := by rw [hW1]; exact World.cell?_alloc_at _ _ _ _ rfl
      rw [← hW1] at hE1
      have g1' := cell_ext hE1 g1
      have g2' := cell_ext hE1 g2
      have c0' := cell_ext hE1 c0
      have hsz1 : W1.heap.size = wr.heap.size + 1 := by rw [hW1]; simp
      have hszw : W.heap.size ≤ wr.heap.size := hK.out.size
      have hnb : wr.heap.size ∉ rs := fun hm => by have := (HRS.out _ hm).2; omega
      have HJ1 := Lib.hid (abides_ext HJ.out hJw.out hE1)
      have HK1 := Lib.hid (hK.out.trans (KeepC.ext hE1))
      have HY1 := Lib.hid (HYW.out.ext hE1)
      have HW1 := Lib.hid hW1; have HNB := Lib.hid hnb
      clear hW1 hE1 hnb hsz1
      have hkp : (k : Int) ≤ (n : Int) := by omega
      by_cases hki : k = i + 1
      · have hwk : IntKind.i64.wrap ((i : Int) + 1) = (i : Int) + 1 := wrapi64 _ (by omega) (by omega)
        have hkb : ((k : Int) == (i : Int) + 1) = true := by simp; omega
        have HKI := Lib.hid hki; clear hki
        obtain ⟨fn, tmps, assign, body, hy1, hR1⟩ := HYD.out pre ⟨(k, 0), HX0.out HKI.out⟩ W1 HJ1.out (by omega)
        have HR1 := Lib.hid hR1; clear hR1
        dsimp only [encT] at hy1
        rw [HW1.out] at hy1 HR1
        have g1a := g1'; have g2a := g2'; have c0a := c0'; have d0a := d0; have d1a := d1
        rw [HW1.out] at g1a g2a c0a d0a d1a
        gi_wp2
        rw [← HW1.out] at HR1 ⊢
        clear g1a g2a c0a d0a d1a
        refine HR1.out.mono ?_
        rintro e W2 (⟨rfl, hJ2, hk2'⟩ | ⟨rfl, hJx2⟩)
        · have g12 := hk2'.cell HPR.out.1 g1'
          have g22 := hk2'.cell HPR.out.2 g2'
          have d20 := hk2'.cell HNB.out d0
          have d21 := hk2'.cell HNB.out d1
          have HK2 := Lib.hid (HK1.out.trans hk2')
          have hy2w := HY.out.keep hW HK2.out HRS1.out
          have HY2 := Lib.hid hy2w
          have HJ2 := Lib.hid hJ2
          clear g1 g2 g1' g2' c0 c0' d0 d1 hJ2 hk2' hy2w HR1 hwk hkb
          have g1x := g12
          gi_wp2_with fail
          refine ⟨trivial, (callsIn_wide.2 (H52.out _ HY2.out)).mono ?_⟩
          rintro e w5 ⟨rfl, hb5⟩
          have d50 := cell_ext hb5 d20
          have d51 := cell_ext hb5 d21
          have g51 := cell_ext hb5 g1x
          have HK5 := Lib.hid (HK2.out.trans (KeepC.ext hb5))
          have HJ5 := Lib.hid (abides_ext HJ.out HJ2.out hb5)
          clear hb5 d20 d21
          by_cases hfp : 0 < fv
          · obtain ⟨fn2, tmps2, assign2, body2, hy2, hR2⟩ := HYD.out (pre ++ [(⟨(k, 0), HX0.out HKI.out⟩ : PartOf F n i)]) ⟨(k, fv), HX1.out hfp⟩ w5 HJ5.out (by simp; omega)
            have HR2 := Lib.hid hR2; clear hR2
            dsimp only [encT] at hy2
            gi_wp2
            refine HR2.out.mono ?_
            rintro e W3 (⟨rfl, hJ3, hk3⟩ | ⟨rfl, hJx3⟩)
            · have HJ3 := Lib.hid hJ3; have HK3 := Lib.hid (HK5.out.trans hk3); clear hJ3 hk3 HR2
              gi_wp2
              go_roundw
              case rel => exact ⟨(pre ++ [(⟨(k, 0), HX0.out HKI.out⟩ : PartOf F n i)]) ++ [(⟨(k, fv), HX1.out hfp⟩ : PartOf F n i)], k + 1, by omega, by omega, by go_num, (by rw [pv_snoc, pv_snoc, hpv.out, HS.out, if_pos HKI.out, if_pos hfp] : _ = _), HJ3.out, HK3.out⟩
              case measure => simp [intOf]; omega
            · have HJx3 := Lib.hid hJx3; clear hJx3 HR2
              gi_wp2
              refine bodyPost_ret (results_none rfl _ _ _) rfl ?_
              refine ⟨⟨_, rfl⟩, .inr ⟨_, ?_, HJx3.out⟩⟩
              have hq : pv F n i ((pre ++ [(⟨(k, 0), HX0.out HKI.out⟩ : PartOf F n i)]) ++ [(⟨(k, fv), HX1.out hfp⟩ : PartOf F n i)]) = partsTo F i (k + 1) := by rw [pv_snoc, pv_snoc, hpv.out, HS.out, if_pos HKI.out, if_pos hfp]
              rw [hq]; exact HPK.out
          · have hfd : decide (0 < fv) = false := decide_eq_false hfp
            gi_wp2
            refine ⟨fun f h => (by cases h), ?_⟩
            gi_wp2
            go_roundw
            case rel => exact ⟨(pre ++ [(⟨(k, 0), HX0.out HKI.out⟩ : PartOf F n i)]), k + 1, by omega, by omega, by go_num, (by rw [pv_snoc, hpv.out, HS.out, if_pos HKI.out, if_neg (show ¬ 0 < fv by omega), List.append_nil] : _ = _), HJ5.out, HK5.out⟩
            case measure => simp [intOf]; omega
        · have HJx2 := Lib.hid hJx2; clear hJx2 HR1
          gi_wp2
          refine bodyPost_ret (results_none rfl _ _ _) rfl ?_
          refine ⟨⟨_, rfl⟩, .inr ⟨_, ?_, HJx2.out⟩⟩
          refine List.IsPrefix.trans ?_ HPK.out
          rw [pv_snoc, hpv.out, HS.out, if_pos HKI.out]
          exact List.prefix_append _ _
      · have hwk : IntKind.i64.wrap ((i : Int) + 1) = (i : Int) + 1 := wrapi64 _ (by omega) (by omega)
        have hkb : ((k : Int) == (i : Int) + 1) = false := by simp; omega
        have g1x := g1'
        have HKI := Lib.hid hki; clear hki
        have g1a := g1'; have g2a := g2'; have c0a := c0'; have d0a := d0; have d1a := d1
        rw [HW1.out] at g1a g2a c0a d0a d1a
        gi_wp2_with fail
        refine ⟨fun f h => (by cases h), ?_⟩
        gi_wp2_with fail
        rw [← HW1.out]
        clear g1a g2a c0a d0a d1a
        refine ⟨trivial, (callsIn_wide.2 (H52.out _ HY1.out)).mono ?_⟩
        rintro e w5 ⟨rfl, hb5⟩
        have d50 := cell_ext hb5 d0
        have d51 := cell_ext hb5 d1
        have g51 := cell_ext hb5 g1x
        have HK5 := Lib.hid (HK1.out.trans (KeepC.ext hb5))
        have HJ5 := Lib.hid (abides_ext HJ.out HJ1.out hb5)
        clear hb5 d0 d1
        by_cases hfp : 0 < fv
        · obtain ⟨fn2, tmps2, assign2, body2, hy2, hR2⟩ := HYD.out pre ⟨(k, fv), HX1.out hfp⟩ w5 HJ5.out (by omega)
          have HR2 := Lib.hid hR2; clear hR2
          dsimp only [encT] at hy2
          gi_wp2
          refine HR2.out.mono ?_
          rintro e W3 (⟨rfl, hJ3, hk3⟩ | ⟨rfl, hJx3⟩)
          · have HJ3 := Lib.hid hJ3; have HK3 := Lib.hid (HK5.out.trans hk3); clear hJ3 hk3 HR2
            gi_wp2
            go_roundw
            case rel => exact ⟨pre ++ [(⟨(k, fv), HX1.out hfp⟩ : PartOf F n i)], k + 1, by omega, by omega, by go_num, (by rw [pv_snoc, hpv.out, HS.out, if_neg HKI.out, if_pos hfp, List.append_nil] : _ = _), HJ3.out, HK3.out⟩
            case measure => simp [intOf]; omega
          · have HJx3 := Lib.hid hJx3; clear hJx3 HR2
            gi_wp2
            refine bodyPost_ret (results_none rfl _ _ _) rfl ?_
            refine ⟨⟨_, rfl⟩, .inr ⟨_, ?_, HJx3.out⟩⟩
            have hq : pv F n i (pre ++ [(⟨(k, fv), HX1.out hfp⟩ : PartOf F n i)]) = partsTo F i (k + 1) := by rw [pv_snoc, hpv.out, HS.out, if_neg HKI.out, if_pos hfp, List.append_nil]
            rw [hq]; exact HPK.out
        · have hfd : decide (0 < fv) = false := decide_eq_false hfp
          gi_wp2
          refine ⟨fun f h => (by cases h), ?_⟩
          gi_wp2
          go_roundw
          case rel => exact ⟨pre, k + 1, by omega, by omega, by go_num, (by rw [hpv.out, HS.out, if_neg HKI.out, if_neg (show ¬ 0 < fv by omega), List.append_nil, List.append_nil] : _ = _), HJ5.out, HK5.out⟩
          case measure => simp [intOf]; omega
    · gi_wp2
      go_end0
      refine ⟨⟨_, rfl⟩, .inl ⟨pre, ?_, hJw.out⟩⟩
      rw [hpv.out, ← partsTo_all]
      rcases hk2 with h | h
      · rw [show k = n + 1 from by omega]
      · subst h; rw [partsTo_first]; unfold partsTo; rw [if_pos (by omega)]
/-- parts' closure, as the loops' law asks it. -/
theorem parts_stops (F : Nat → Nat → Int) (n f Bp By b i : Nat) (vt vb : Value) (th bd : List Int) (r : Rl) (ps : List Int) (rs : List Nat) (hv : Vw th bd r) (hF : F = sF th bd r) (hn : th.length = n + 1) (hf : 1 ≤ f) (w₀ : World) (hy : YardAt w₀ b vt vb th bd r ps)
    (w : World) (hw : Ext w₀ w) (hrs : ∀ r ∈ rs, w₀.heap.size ≤ r ∧ r < w.heap.size) (hpr : Bp ∉ rs ∧ By ∉ rs) (hi : i < 61) (hp : w.cell? ⟨Bp, 0, none⟩ = some (.int .i64 (i : Int))) (hq : w.cell? ⟨By, 0, none⟩ = some (.pointer (some ⟨b, 0, none⟩))) :
    SeqStopsK Fence.wide f Try.prog 90 #[.pointer (some ⟨Bp, 0, none⟩), .pointer (some ⟨By, 0, none⟩)] (encT F n i) (KeepC rs) (fun ys => pv F n i ys = partsL F n i) (fun pre => pv F n i pre <+: partsL F n i) 200 w := fun l J Jx W hW hJ hJx hY h0 =>
  parts90 F n f l Bp By b i vt vb th bd r ps rs hv hF hn hf w₀ hy J Jx W (hw.trans hW) (fun r hr => ⟨(hrs r hr).1, by have := (hrs r hr).2; have := hW.size; omega⟩) hpr hi hJ hJx hY (cell_ext hW hp) (cell_ext hW hq) h0
end Go.Proofs.Ytcgheakadfjofaa
