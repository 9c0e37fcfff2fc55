/- parts' closure: what it yields. greatest, by its contract: the greatest worth of the parts that are let. -/
import Derived.Test.YtcgheakadfjofaaB9
namespace Go.Proofs.Ytcgheakadfjofaa
open Go.RowKit Go.Shelf
set_option linter.unusedVariables false
set_option linter.unusedSimpArgs false
attribute [local go_sem] Oper.semAt_some
theorem abides_ext {α : Type} {B : Nat} {J : List α → World → Prop} (hJ : AbidesFrom B J) {pre : List α} {A C : World} (h : J pre A) (hE : Ext A C) : J pre C := hJ pre A C none h (grown_ext hE none) (fun r e => by cases e)
set_option maxRecDepth 100000 in
set_option maxHeartbeats 4000000 in
theorem parts90 (F : Nat → Nat → Int) (n f l Bp By b i : Nat) (vt vb : Value) (th bd : List Int) (r : Rl) (ps : List Int) (rs : List Nat) (hv : Vw th bd r) (hF : F = sF th bd r) (hn : th.length = n + 1) (hf : 1 ≤ f) (w₀ : World) (hy : YardAt w₀ b vt vb th bd r ps)
    (J Jx : List (PartOf F n i) → World → Prop) (W : World) (hW : Ext w₀ W) (hrs : ∀ r ∈ rs, w₀.heap.size ≤ r ∧ r < W.heap.size) (hpr : Bp ∉ rs ∧ By ∉ rs) (hi : i < 61)
    (hJ : AbidesFrom W.heap.size J) (hJx : AbidesFrom W.heap.size Jx)
    (hY : ∀ pre x W1, J pre W1 → pre.length < 200 → YieldAt Fence.wide (f - 1) Try.prog l (encT F n i x) W1 fun e W' =>
      (e = .returned (.bool true) ∧ J (pre ++ [x]) W' ∧ KeepC rs W1 W') ∨ (e = .returned (.bool false) ∧ Jx (pre ++ [x]) W'))
    (hp : W.cell? ⟨Bp, 0, none⟩ = some (.int .i64 (i : Int))) (hq : W.cell? ⟨By, 0, none⟩ = some (.pointer (some ⟨b, 0, none⟩))) (h0 : J [] W) :
    CallsIn Fence.wide f Try.prog 90 #[.func (.yield l) #[] #[], .pointer (some ⟨Bp, 0, none⟩), .pointer (some ⟨By, 0, none⟩)] W fun e W' => (∃ v, e = .returned v) ∧
      ((∃ ys, pv F n i ys = partsL F n i ∧ J ys W') ∨ (∃ pre, pv F n i pre <+: partsL F n i ∧ Jx pre W')) := by
  obtain ⟨hl, a, cap, rfl⟩ := hy.th.shape
  have hth := hv.most
  have hFC : ∀ k : Nat, i < k → k < n + 1 → ∀ X : World, YardAt X b (.slice a th.length cap) vb th bd r ps → Calls Try.prog 52 #[.pointer (some ⟨b, 0, none⟩), .agg #[.int .i64 (i : Int), .int .i64 (k : Int)]] X fun e w' => e = .returned (.int .i64 (F i k)) ∧ Ext X w' :=
    fun k h1 h2 X hX => by rw [hF]; exact feet52 b _ vb th bd r ps i k X hX hv h1 (by omega)
  rw [hn] at hFC hy hth hl
  have HFC := Lib.hid hFC; have HY := Lib.hid hy; have HYD := Lib.hid hY
  have hrs1 : ∀ r ∈ rs, w₀.heap.size ≤ r := fun r hr => (hrs r hr).1
  have HRS := Lib.hid hrs; have HRS1 := Lib.hid hrs1; have HPR := Lib.hid hpr; have HJ := Lib.hid hJ; have HJX := Lib.hid hJx
  clear hv hF hn hl hFC hy hrs hrs1 hpr hJ hJx hY
  refine callsIn_of_wp Try.func90 rfl trivial ?_ rfl
  simp only [Try.ntmps90, List.size_toArray, List.length_cons, List.length_nil, Nat.reduceAdd, Nat.reduceSub, Array.replicate_succ, Array.replicate_zero, List.push_toArray, List.append_toArray, List.nil_append, List.cons_append]
  gi_wp2
  gi_loopw [4] (fun s wr => ∃ (pre : List (PartOf F n i)) (k : Nat), i + 1 ≤ k ∧ (k ≤ n + 1 ∨ k = i + 1) ∧ s = .int .i64 (k : Int) ∧ Hid (pv F n i pre = partsTo F i k) ∧ Hid (J pre wr) ∧ Hid (KeepC rs W wr))
    (fun s wr => n + 1 - (intOf s).toNat)
  case atStart => exact ⟨[], i + 1, Nat.le_refl _, .inr rfl, by go_num, (by rw [partsTo_first]; rfl : _ = _), h0, KeepC.refl _ _⟩
  case round =>
    obtain ⟨pre, k, hk1, hk2, rfl, hpv, hJw, hK⟩ := hrel
    have g1 := hK.out.cell HPR.out.1 hp
    have g2 := hK.out.cell HPR.out.2 hq
    have hyw := HY.out.keep hW hK.out HRS1.out
    obtain ⟨c0, -⟩ := hyw.cells
    have HYW := Lib.hid hyw; clear hyw
    by_cases hlt : k < n + 1
    · have hk61 : k ≤ 61 := by omega
      have hpl : pre.length ≤ k := by
        have h3 := partsTo_len F i k
        rw [← hpv.out, pv_len] at h3; exact h3
      have hsucc := partsTo_succ F i k hk1
      have hx0 : ∀ h : k = i + 1, ((k, 0) : Nat × Int) ∈ partsL F n i := fun h => mem_partsL.2 (.inl ⟨by omega, by rw [h]⟩)
      have hx1 : 0 < F i k → ((k, F i k) : Nat × Int) ∈ partsL F n i := fun h => mem_partsL.2 (.inr ⟨by dsimp only; omega, by dsimp only; omega, h, rfl⟩)
      have hpk : partsTo F i (k + 1) <+: partsL F n i := by rw [← partsTo_all]; exact partsTo_pre F i (by omega)
      have h52 := HFC.out k (by omega) hlt
      obtain ⟨fv, hfv⟩ : ∃ fv, fv = F i k := ⟨_, rfl⟩
      rw [← hfv] at hsucc hx1 h52
      have H52 := Lib.hid h52; have HS := Lib.hid hsucc; have HX0 := Lib.hid hx0; have HX1 := Lib.hid hx1; have HPK := Lib.hid hpk
      clear h52 hsucc hx0 hx1 hpk hfv
      have hE1 : Ext wr (wr.alloc (.cells #[.int .i64 (i : Int), .int .i64 (k : Int)] 29)) := (Ext.refl wr).alloc _
      obtain ⟨W1, hW1⟩ : ∃ W1, W1 = wr.alloc (.cells #[.int .i64 (i : Int), .int .i64 (k : Int)] 29) := ⟨_, rfl⟩
      have d0 : W1.cell? ⟨wr.heap.size, 0, none⟩ = some (.int .i64 (i : Int)) := by rw [hW1]; exact World.cell?_alloc_at _ _ _ _ rfl
      have d1 : W1.cell? ⟨wr.heap.size, 1, none⟩ = some (.int .i64 (k : Int)) := by rw [hW1]; exact World.cell?_alloc_at _ _ _ _ rfl
      rw [← hW1] at hE1
      have g1' := cell_ext hE1 g1
      have g2' := cell_ext hE1 g2
      have c0' := cell_ext hE1 c0
      have hsz1 : W1.heap.size = wr.heap.size + 1 := by rw [hW1]; simp
      have hszw : W.heap.size ≤ wr.heap.size := hK.out.size
      have hnb : wr.heap.size ∉ rs := fun hm => by have := (HRS.out _ hm).2; omega
      have HJ1 := Lib.hid (abides_ext HJ.out hJw.out hE1)
      have HK1 := Lib.hid (hK.out.trans (KeepC.ext hE1))
      have HY1 := Lib.hid (HYW.out.ext hE1)
      have HW1 := Lib.hid hW1; have HNB := Lib.hid hnb
      clear hW1 hE1 hnb hsz1
      have hkp : (k : Int) ≤ (n : Int) := by omega
      by_cases hki : k = i + 1
      · have hwk : IntKind.i64.wrap ((i : Int) + 1) = (i : Int) + 1 := wrapi64 _ (by omega) (by omega)
        have hkb : ((k : Int) == (i : Int) + 1) = true := by simp; omega
        have HKI := Lib.hid hki; clear hki
        obtain ⟨fn, tmps, assign, body, hy1, hR1⟩ := HYD.out pre ⟨(k, 0), HX0.out HKI.out⟩ W1 HJ1.out (by omega)
        have HR1 := Lib.hid hR1; clear hR1
        dsimp only [encT] at hy1
        rw [HW1.out] at hy1 HR1
        have g1a := g1'; have g2a := g2'; have c0a := c0'; have d0a := d0; have d1a := d1
        rw [HW1.out] at g1a g2a c0a d0a d1a
        gi_wp2
        rw [← HW1.out] at HR1 ⊢
        clear g1a g2a c0a d0a d1a
        refine HR1.out.mono ?_
        rintro e W2 (⟨rfl, hJ2, hk2'⟩ | ⟨rfl, hJx2⟩)
        · have g12 := hk2'.cell HPR.out.1 g1'
          have g22 := hk2'.cell HPR.out.2 g2'
          have d20 := hk2'.cell HNB.out d0
          have d21 := hk2'.cell HNB.out d1
          have HK2 := Lib.hid (HK1.out.trans hk2')
          have hy2w := HY.out.keep hW HK2.out HRS1.out
          have HY2 := Lib.hid hy2w
          have HJ2 := Lib.hid hJ2
          clear g1 g2 g1' g2' c0 c0' d0 d1 hJ2 hk2' hy2w HR1 hwk hkb
          have g1x := g12
          gi_wp2_with fail
          refine ⟨trivial, (callsIn_wide.2 (H52.out _ HY2.out)).mono ?_⟩
          rintro e w5 ⟨rfl, hb5⟩
          have d50 := cell_ext hb5 d20
          have d51 := cell_ext hb5 d21
          have g51 := cell_ext hb5 g1x
          have HK5 := Lib.hid (HK2.out.trans (KeepC.ext hb5))
          have HJ5 := Lib.hid (abides_ext HJ.out HJ2.out hb5)
          clear hb5 d20 d21
          by_cases hfp : 0 < fv
          · obtain ⟨fn2, tmps2, assign2, body2, hy2, hR2⟩ := HYD.out (pre ++ [(⟨(k, 0), HX0.out HKI.out⟩ : PartOf F n i)]) ⟨(k, fv), HX1.out hfp⟩ w5 HJ5.out (by simp; omega)
            have HR2 := Lib.hid hR2; clear hR2
            dsimp only [encT] at hy2
            gi_wp2
            refine HR2.out.mono ?_
            rintro e W3 (⟨rfl, hJ3, hk3⟩ | ⟨rfl, hJx3⟩)
            · have HJ3 := Lib.hid hJ3; have HK3 := Lib.hid (HK5.out.trans hk3); clear hJ3 hk3 HR2
              gi_wp2
              go_roundw
              case rel => exact ⟨(pre ++ [(⟨(k, 0), HX0.out HKI.out⟩ : PartOf F n i)]) ++ [(⟨(k, fv), HX1.out hfp⟩ : PartOf F n i)], k + 1, by omega, by omega, by go_num, (by rw [pv_snoc, pv_snoc, hpv.out, HS.out, if_pos HKI.out, if_pos hfp] : _ = _), HJ3.out, HK3.out⟩
              case measure => simp [intOf]; omega
            · have HJx3 := Lib.hid hJx3; clear hJx3 HR2
              gi_wp2
              refine bodyPost_ret (results_none rfl _ _ _) rfl ?_
              refine ⟨⟨_, rfl⟩, .inr ⟨_, ?_, HJx3.out⟩⟩
              have hq : pv F n i ((pre ++ [(⟨(k, 0), HX0.out HKI.out⟩ : PartOf F n i)]) ++ [(⟨(k, fv), HX1.out hfp⟩ : PartOf F n i)]) = partsTo F i (k + 1) := by rw [pv_snoc, pv_snoc, hpv.out, HS.out, if_pos HKI.out, if_pos hfp]
              rw [hq]; exact HPK.out
          · have hfd : decide (0 < fv) = false := decide_eq_false hfp
            gi_wp2
            refine ⟨fun f h => (by cases h), ?_⟩
            gi_wp2
            go_roundw
            case rel => exact ⟨(pre ++ [(⟨(k, 0), HX0.out HKI.out⟩ : PartOf F n i)]), k + 1, by omega, by omega, by go_num, (by rw [pv_snoc, hpv.out, HS.out, if_pos HKI.out, if_neg (show ¬ 0 < fv by omega), List.append_nil] : _ = _), HJ5.out, HK5.out⟩
            case measure => simp [intOf]; omega
        · have HJx2 := Lib.hid hJx2; clear hJx2 HR1
          gi_wp2
          refine bodyPost_ret (results_none rfl _ _ _) rfl ?_
          refine ⟨⟨_, rfl⟩, .inr ⟨_, ?_, HJx2.out⟩⟩
          refine List.IsPrefix.trans ?_ HPK.out
          rw [pv_snoc, hpv.out, HS.out, if_pos HKI.out]
          exact List.prefix_append _ _
      · have hwk : IntKind.i64.wrap ((i : Int) + 1) = (i : Int) + 1 := wrapi64 _ (by omega) (by omega)
        have hkb : ((k : Int) == (i : Int) + 1) = false := by simp; omega
        have g1x := g1'
        have HKI := Lib.hid hki; clear hki
        have g1a := g1'; have g2a := g2'; have c0a := c0'; have d0a := d0; have d1a := d1
        rw [HW1.out] at g1a g2a c0a d0a d1a
        gi_wp2_with fail
        refine ⟨fun f h => (by cases h), ?_⟩
        gi_wp2_with fail
        rw [← HW1.out]
        clear g1a g2a c0a d0a d1a
        refine ⟨trivial, (callsIn_wide.2 (H52.out _ HY1.out)).mono ?_⟩
        rintro e w5 ⟨rfl, hb5⟩
        have d50 := cell_ext hb5 d0
        have d51 := cell_ext hb5 d1
        have g51 := cell_ext hb5 g1x
        have HK5 := Lib.hid (HK1.out.trans (KeepC.ext hb5))
        have HJ5 := Lib.hid (abides_ext HJ.out HJ1.out hb5)
        clear hb5 d0 d1
        by_cases hfp : 0 < fv
        · obtain ⟨fn2, tmps2, assign2, body2, hy2, hR2⟩ := HYD.out pre ⟨(k, fv), HX1.out hfp⟩ w5 HJ5.out (by omega)
          have HR2 := Lib.hid hR2; clear hR2
          dsimp only [encT] at hy2
          gi_wp2
          refine HR2.out.mono ?_
          rintro e W3 (⟨rfl, hJ3, hk3⟩ | ⟨rfl, hJx3⟩)
          · have HJ3 := Lib.hid hJ3; have HK3 := Lib.hid (HK5.out.trans hk3); clear hJ3 hk3 HR2
            gi_wp2
            go_roundw
            case rel => exact ⟨pre ++ [(⟨(k, fv), HX1.out hfp⟩ : PartOf F n i)], k + 1, by omega, by omega, by go_num, (by rw [pv_snoc, hpv.out, HS.out, if_neg HKI.out, if_pos hfp, List.append_nil] : _ = _), HJ3.out, HK3.out⟩
            case measure => simp [intOf]; omega
          · have HJx3 := Lib.hid hJx3; clear hJx3 HR2
            gi_wp2
            refine bodyPost_ret (results_none rfl _ _ _) rfl ?_
            refine ⟨⟨_, rfl⟩, .inr ⟨_, ?_, HJx3.out⟩⟩
            have hq : pv F n i (pre ++ [(⟨(k, fv), HX1.out hfp⟩ : PartOf F n i)]) = partsTo F i (k + 1) := by rw [pv_snoc, hpv.out, HS.out, if_neg HKI.out, if_pos hfp, List.append_nil]
            rw [hq]; exact HPK.out
        · have hfd : decide (0 < fv) = false := decide_eq_false hfp
          gi_wp2
          refine ⟨fun f h => (by cases h), ?_⟩
          gi_wp2
          go_roundw
          case rel => exact ⟨pre, k + 1, by omega, by omega, by go_num, (by rw [hpv.out, HS.out, if_neg HKI.out, if_neg (show ¬ 0 < fv by omega), List.append_nil, List.append_nil] : _ = _), HJ5.out, HK5.out⟩
          case measure => simp [intOf]; omega
    · gi_wp2
      go_end0
      refine ⟨⟨_, rfl⟩, .inl ⟨pre, ?_, hJw.out⟩⟩
      rw [hpv.out, ← partsTo_all]
      rcases hk2 with h | h
      · rw [show k = n + 1 from by omega]
      · subst h; rw [partsTo_first]; unfold partsTo; rw [if_pos (by omega)]
/-- parts' closure, as the loops' law asks it. -/
theorem parts_stops (F : Nat → Nat → Int) (n f Bp By b i : Nat) (vt vb : Value) (th bd : List Int) (r : Rl) (ps : List Int) (rs : List Nat) (hv : Vw th bd r) (hF : F = sF th bd r) (hn : th.length = n + 1) (hf : 1 ≤ f) (w₀ : World) (hy : YardAt w₀ b vt vb th bd r ps)
    (w : World) (hw : Ext w₀ w) (hrs : ∀ r ∈ rs, w₀.heap.size ≤ r ∧ r < w.heap.size) (hpr : Bp ∉ rs ∧ By ∉ rs) (hi : i < 61) (hp : w.cell? ⟨Bp, 0, none⟩ = some (.int .i64 (i : Int))) (hq : w.cell? ⟨By, 0, none⟩ = some (.pointer (some ⟨b, 0, none⟩))) :
    SeqStopsK Fence.wide f Try.prog 90 #[.pointer (some ⟨Bp, 0, none⟩), .pointer (some ⟨By, 0, none⟩)] (encT F n i) (KeepC rs) (fun ys => pv F n i ys = partsL F n i) (fun pre => pv F n i pre <+: partsL F n i) 200 w := fun l J Jx W hW hJ hJx hY h0 =>
  parts90 F n f l Bp By b i vt vb th bd r ps rs hv hF hn hf w₀ hy J Jx W (hw.trans hW) (fun r hr => ⟨(hrs r hr).1, by have := (hrs r hr).2; have := hW.size; omega⟩) hpr hi hJ hJx hY (cell_ext hW hp) (cell_ext hW hq) h0
end Go.Proofs.Ytcgheakadfjofaa
namespace Go.Proofs.Ytcgheakadfjofaa
open Go.RowKit Go.Shelf
set_option linter.unusedVariables false
set_option linter.unusedSimpArgs false
attribute [local go_sem] Oper.semAt_some
theorem boxed_turn {A B : World} {g : Nat} {t : TypeId} {v : Value} (h : Boxed A g t v) {base : Nat} {row : Option Nat} (hg : A.grownBy B row) (hr : ∀ r, row = some r → base ≤ r ∧ ∃ o : Obj, A.heap[r]? = some o ∧ o.isCells = false) : Boxed B g t v :=
  (hg.block g h.lt (fun e => by
    obtain ⟨_, o, ho, hc⟩ := hr g e.symm
    have h' : A.heap[g]? = _ := h
    rw [h'] at ho; cases ho; cases hc)).trans h
theorem cells_turn {A B : World} {g : Nat} {cs : Array Value} {t : TypeId} {fr : Nat × Nat} (h : A.heap[g]? = some (.cells cs t fr)) {base : Nat} {row : Option Nat} (hg : A.grownBy B row) (hr : ∀ r, row = some r → base ≤ r ∧ ∃ o : Obj, A.heap[r]? = some o ∧ o.isCells = false) : B.heap[g]? = some (.cells cs t fr) :=
  (hg.block g (Array.getElem?_eq_some_iff.1 h).1 (fun e => by
    obtain ⟨_, o, ho, hc⟩ := hr g e.symm
    rw [h] at ho; cases ho; cases hc)).trans h
theorem ext_keeps {w w' : World} (h : Ext w w') : KeepsOthers w w' := ⟨h.size, fun k o hk _ => block_ext h hk⟩
/-- What greatest has found behind some parts. -/
def accO (F : Nat → Nat → Int) (n i : Nat) (lb : Nat × Int → Bool) (wv : Nat × Int → Int) (ys : List (PartOf F n i)) : Option Int := (((pv F n i ys).filter lb).map wv).foldl grS none
theorem accO_snoc (F : Nat → Nat → Int) (n i : Nat) (lb : Nat × Int → Bool) (wv : Nat × Int → Int) (ys : List (PartOf F n i)) (x : PartOf F n i) : accO F n i lb wv (ys ++ [x]) = if lb x.1 = true then grS (accO F n i lb wv ys) (wv x.1) else accO F n i lb wv ys := by
  unfold accO
  rw [pv_snoc, List.filter_append, List.map_append, List.foldl_append]
  by_cases h : lb x.1 = true <;> simp [h]
set_option maxRecDepth 100000 in
set_option maxHeartbeats 8000000 in
theorem great_any (F : Nat → Nat → Int) (n Bp By b i : Nat) (vt vb : Value) (th bd : List Int) (r : Rl) (ps : List Int) (lb : Nat × Int → Bool) (wv : Nat × Int → Int) (hv : Vw th bd r) (hF : F = sF th bd r) (hn : th.length = n + 1) (w₀ : World) (hy : YardAt w₀ b vt vb th bd r ps)
    (w : World) (hw : Ext w₀ w) (hi : i < 61) (hp : w.cell? ⟨Bp, 0, none⟩ = some (.int .i64 (i : Int))) (hq : w.cell? ⟨By, 0, none⟩ = some (.pointer (some ⟨b, 0, none⟩)))
    (hl : ∀ p ∈ partsL F n i, ∀ X, Ext w X → Calls Try.prog 75 #[.agg #[.int .i64 (i : Int), .int .i64 (p.1 : Int), .int .i64 p.2]] X fun e w' => e = .returned (.bool (lb p)) ∧ Ext X w')
    (hwv : ∀ p ∈ partsL F n i, lb p = true → ∀ X, Ext w X → Calls Try.prog 84 #[.pointer (some ⟨b, 0, none⟩), .agg #[.int .i64 (i : Int), .int .i64 (p.1 : Int), .int .i64 p.2]] X fun e w' => e = .returned (.int .i64 (wv p)) ∧ Ext X w') :
    Calls Try.prog 83 #[.func (.func 90) #[] #[.pointer (some ⟨Bp, 0, none⟩), .pointer (some ⟨By, 0, none⟩)], .func (.func 75) #[] #[], .func (.func 84) #[.pointer (some ⟨b, 0, none⟩)] #[]] w fun e w' => e = .returned (.int .i64 (gr (((partsL F n i).filter lb).map wv))) ∧ Ext w w' := by
  refine (callsIn_wide (n := 10)).1 ?_
  have lp := lt_of_cell hp
  have lq := lt_of_cell hq
  have HL := Lib.hid hl; have HWV := Lib.hid hwv; have HY := Lib.hid hy; have HV := Lib.hid hv; have HF := Lib.hid hF; have HN := Lib.hid hn
  clear hl hwv hy hv hF hn
  refine callsIn_of_wp_marks Try.func83 rfl trivial ?_ rfl
  simp only [Try.ntmps83, List.size_toArray, List.length_cons, List.length_nil, Nat.reduceAdd, Nat.reduceSub, Array.replicate_succ, Array.replicate_zero, List.push_toArray, List.append_toArray, List.nil_append, List.cons_append]
  gi_wp2
  have b4 := (((Boxed.new w 111 (.func (.func 75) #[] #[])).alloc (.cells #[.func (.func 84) #[.pointer (some ⟨b, 0, none⟩)] #[]] 121)).alloc (.cells #[.int .i64 0] 2)).alloc (.cells #[.bool false] 4)
  have b5 := ((Boxed.new (w.alloc (.cells #[.func (.func 75) #[] #[]] 111)) 121 (.func (.func 84) #[.pointer (some ⟨b, 0, none⟩)] #[])).alloc (.cells #[.int .i64 0] 2)).alloc (.cells #[.bool false] 4)
  have b2 := (Boxed.new ((w.alloc (.cells #[.func (.func 75) #[] #[]] 111)).alloc (.cells #[.func (.func 84) #[.pointer (some ⟨b, 0, none⟩)] #[]] 121)) 2 (.int .i64 0)).alloc (.cells #[.bool false] 4)
  have b3 := Boxed.new (((w.alloc (.cells #[.func (.func 75) #[] #[]] 111)).alloc (.cells #[.func (.func 84) #[.pointer (some ⟨b, 0, none⟩)] #[]] 121)).alloc (.cells #[.int .i64 0] 2)) 4 (.bool false)
  have hB0 : Below w.heap.size w ((((w.alloc (.cells #[.func (.func 75) #[] #[]] 111)).alloc (.cells #[.func (.func 84) #[.pointer (some ⟨b, 0, none⟩)] #[]] 121)).alloc (.cells #[.int .i64 0] 2)).alloc (.cells #[.bool false] 4)) := ((((Ext.refl w).alloc _).alloc _).alloc _).alloc _
  have hsz : ((((w.alloc (.cells #[.func (.func 75) #[] #[]] 111)).alloc (.cells #[.func (.func 84) #[.pointer (some ⟨b, 0, none⟩)] #[]] 121)).alloc (.cells #[.int .i64 0] 2)).alloc (.cells #[.bool false] 4)).heap.size = w.heap.size + 4 := by simp
  simp only [World.size_alloc] at b5 b2 b3
  obtain ⟨W0, hW0⟩ : ∃ W0, ((((w.alloc (.cells #[.func (.func 75) #[] #[]] 111)).alloc (.cells #[.func (.func 84) #[.pointer (some ⟨b, 0, none⟩)] #[]] 121)).alloc (.cells #[.int .i64 0] 2)).alloc (.cells #[.bool false] 4)) = W0 := ⟨_, rfl⟩
  rw [hW0] at b4 b5 b2 b3 hB0 hsz ⊢
  clear hW0
  refine wpIn_rangeFunc_ownH rfl (by omega) (gf := 90) (lb := #[.pointer (some ⟨Bp, 0, none⟩), .pointer (some ⟨By, 0, none⟩)]) rfl trivial (enters_of Try.func90 (by kernel_rfl) rfl)
    (parts_stops F n 9 Bp By b i vt vb th bd r ps [w.heap.size + 1 + 1, w.heap.size + 1 + 1 + 1] HV.out HF.out HN.out (by omega) w₀ HY.out W0 (hw.trans hB0) (by have := hw.size; simp; omega) (by simp; omega) hi (cell_ext hB0 hp) (cell_ext hB0 hq)) KeepC.trans (fun W l o o' _ h1 h2 h3 => KeepC.put h1 h2) (Below.refl _ _) (fun _ => rfl)
    (fun pre W => (Boxed W (w.heap.size + 1 + 1) 2 (.int .i64 ((accO F n i lb wv pre).getD 0)) ∧ Boxed W (w.heap.size + 1 + 1 + 1) 4 (.bool (accO F n i lb wv pre).isSome) ∧ Boxed W w.heap.size 111 (.func (.func 75) #[] #[]) ∧ Boxed W (w.heap.size + 1) 121 (.func (.func 84) #[.pointer (some ⟨b, 0, none⟩)] #[])) ∧ Below w.heap.size w W)
    (fun _ _ _ => False)
    ?hI (fun _ _ _ _ _ h _ _ => h) ⟨⟨b2, b3, b4, b5⟩, hB0⟩
    (fun x a' W => ∃ Bx, W0.heap.size ≤ Bx ∧ W.heap[Bx]? = some (.cells #[.int .i64 (i : Int), .int .i64 (x.1.1 : Int), .int .i64 x.1.2] 110 (0, 0)) ∧ a' = { tmps := #[.func (.func 90) #[] #[.pointer (some ⟨Bp, 0, none⟩), .pointer (some ⟨By, 0, none⟩)], .func (.func 75) #[] #[], .func (.func 84) #[.pointer (some ⟨b, 0, none⟩)] #[], undef, .pointer (some ⟨w.heap.size, 0, none⟩), .pointer (some ⟨w.heap.size + 1, 0, none⟩), .int .i64 0, .pointer (some ⟨w.heap.size + 1 + 1, 0, none⟩), .pointer (some ⟨w.heap.size + 1 + 1 + 1, 0, none⟩), .pointer (some ⟨Bx, 0, none⟩), undef, .func (.func 90) #[] #[.pointer (some ⟨Bp, 0, none⟩), .pointer (some ⟨By, 0, none⟩)], .agg #[.int .i64 (i : Int), .int .i64 (x.1.1 : Int), .int .i64 x.1.2], undef, undef, undef, undef, undef, undef, undef, undef, undef, undef, undef, undef, undef, undef, undef, undef], defers := [] })
    ?hAx ?assign ?body ?done ?stop
  case hI => exact OwnFrom.and (fun s A B row hs hg hr => ⟨boxed_turn hs.1 hg hr, boxed_turn hs.2.1 hg hr, boxed_turn hs.2.2.1 hg hr, boxed_turn hs.2.2.2 hg hr⟩) (ownFrom_below (Nat.le_refl _) hB0.size)
  case hAx => exact fun x a' s A B row hs hg hr => let ⟨Bx, h1, h2, h3⟩ := hs; ⟨Bx, h1, cells_turn h2 hg hr, h3⟩
  case assign =>
    rintro l pre x W K ⟨⟨q2, q3, q4, q5⟩, hB⟩ hK
    dsimp only [encT]
    gi_wp2
    exact hK _ _ ((KeepsOthers.alloc _ _).from _) (KeepC.ext ((Ext.refl W).alloc _)) ⟨⟨q2.alloc _, q3.alloc _, q4.alloc _, q5.alloc _⟩, hB.alloc hB.size _⟩ ⟨W.heap.size, hsz ▸ (by have := q3.lt; omega), heap_alloc_new _ _, rfl⟩
  case body =>
    rintro l pre x a' W hlw ⟨rr, hrl⟩ ⟨⟨q2, q3, q4, q5⟩, hB⟩ ⟨Bx, hBx, bX, rfl⟩ hlt
    have hsnoc := accO_snoc F n i lb wv pre x
    obtain ⟨⟨j, y⟩, hx⟩ := x
    dsimp only at bX hsnoc ⊢
    have HACC0 := Lib.hid hsnoc
    have Q2 := Lib.hid q2; have Q3 := Lib.hid q3; have Q4 := Lib.hid q4; have Q5 := Lib.hid q5; have QX := Lib.hid bX; have HB := Lib.hid hB
    have q4 := q4.cell; have q5 := q5.cell
    have x0 := cell_of_row _ _ 0 _ _ _ bX; have x1 := cell_of_row _ _ 1 _ _ _ bX; have x2 := cell_of_row _ _ 2 _ _ _ bX
    simp at x0 x1 x2
    clear bX hB hrl hsnoc b2 b3 b4 b5 q2 q3
    cases hlb : lb (j, y)
    · have HACC := Lib.hid (show accO F n i lb wv (pre ++ [⟨(j, y), hx⟩]) = accO F n i lb wv pre from by rw [HACC0.out, hlb]; rfl)
      clear HACC0
      gi_wp2_with fail
      refine ⟨trivial, (CallsIn.inRound l (callsIn_wide.2 (HL.out _ hx _ HB.out))).mono ?_⟩
      rintro e X1 ⟨rfl, hb⟩
      rw [hlb]
      have HB1 := Lib.hid (HB.out.trans (hb.mono HB.out.size))
      have q4 := Boxed.cell (block_ext hb Q4.out); have q5 := Boxed.cell (block_ext hb Q5.out); have q2 := Boxed.cell (block_ext hb Q2.out); have q3 := Boxed.cell (block_ext hb Q3.out)
      have HE1 := Lib.hid hb
      have x0 := cell_of_row _ _ 0 _ _ _ (block_ext hb QX.out); have x1 := cell_of_row _ _ 1 _ _ _ (block_ext hb QX.out); have x2 := cell_of_row _ _ 2 _ _ _ (block_ext hb QX.out)
      simp at x0 x1 x2
      clear hb
      gi_wp2
      have HEND := HE1; have HBE := HB1
      refine ⟨(ext_keeps HEND.out).from _, KeepC.ext HEND.out, ⟨⟨?_, ?_, ?_, ?_⟩, HBE.out⟩⟩
      · rw [HACC.out]; exact block_ext HEND.out Q2.out
      · rw [HACC.out]; exact block_ext HEND.out Q3.out
      · exact block_ext HEND.out Q4.out
      · exact block_ext HEND.out Q5.out
    · have HACC := Lib.hid (show accO F n i lb wv (pre ++ [⟨(j, y), hx⟩]) = grS (accO F n i lb wv pre) (wv (j, y)) from by rw [HACC0.out, hlb]; rfl)
      clear HACC0
      have hwk := HWV.out (j, y) hx hlb
      generalize wv (j, y) = wvx at *
      have HWV2 := Lib.hid hwk
      clear hwk
      cases ha : accO F n i lb wv pre
      · rw [ha] at HACC Q2 Q3
        dsimp only [Option.getD_none, Option.isSome_none, grS] at HACC Q2 Q3
        clear ha
        gi_wp2_with fail
        refine ⟨trivial, (CallsIn.inRound l (callsIn_wide.2 (HL.out _ hx _ HB.out))).mono ?_⟩
        rintro e X1 ⟨rfl, hb⟩
        rw [hlb]
        have HB1 := Lib.hid (HB.out.trans (hb.mono HB.out.size))
        have q4 := Boxed.cell (block_ext hb Q4.out); have q5 := Boxed.cell (block_ext hb Q5.out); have q2 := Boxed.cell (block_ext hb Q2.out); have q3 := Boxed.cell (block_ext hb Q3.out)
        have HE1 := Lib.hid hb
        have x0 := cell_of_row _ _ 0 _ _ _ (block_ext hb QX.out); have x1 := cell_of_row _ _ 1 _ _ _ (block_ext hb QX.out); have x2 := cell_of_row _ _ 2 _ _ _ (block_ext hb QX.out)
        simp at x0 x1 x2
        clear hb
        gi_wp2_with fail
        refine ⟨trivial, (CallsIn.inRound l (callsIn_wide.2 (HWV2.out _ HB1.out))).mono ?_⟩
        rintro e X2 ⟨rfl, hb⟩
        have HB2 := Lib.hid (HB1.out.trans (hb.mono HB1.out.size))
        have HE2 := Lib.hid (HE1.out.trans hb)
        clear q4 q5 q2 q3 x0 x1 x2 hb
        have b2 : Boxed X2 _ _ _ := block_ext HE2.out Q2.out
        have b3 : Boxed X2 _ _ _ := block_ext HE2.out Q3.out
        have b4 : Boxed X2 _ _ _ := block_ext HE2.out Q4.out
        have b5 : Boxed X2 _ _ _ := block_ext HE2.out Q5.out
        have q2 := b2.cell; have q3 := b3.cell; have f2 := b2.frozen; have f3 := b3.frozen
        have hs2 := b2.lt; have hs3 := b3.lt
        have P2 := Lib.hid b2; have P3 := Lib.hid b3; have P4 := Lib.hid b4; have P5 := Lib.hid b5
        clear b2 b3 b4 b5
        gi_wp2
        refine ⟨((ext_keeps HE2.out).trans ((KeepsOthers.setCell _ _ _).trans (KeepsOthers.setCell _ _ _))).from _, (KeepC.ext HE2.out).trans ((KeepC.set _ (by simp) _).trans (KeepC.set _ (by simp) _)), ⟨⟨?_, ?_, ?_, ?_⟩, ?_⟩⟩
        · rw [HACC.out]; exact (P2.out.set _).other (B' := w.heap.size + 1 + 1 + 1) (by omega) _
        · rw [HACC.out]; exact Boxed.set _ (P3.out.other (B' := w.heap.size + 1 + 1) (by omega) _)
        · exact (P4.out.other (B' := w.heap.size + 1 + 1) (by omega) _).other (B' := w.heap.size + 1 + 1 + 1) (by omega) _
        · exact (P5.out.other (B' := w.heap.size + 1 + 1) (by omega) _).other (B' := w.heap.size + 1 + 1 + 1) (by omega) _
        · exact (HB2.out.setCell (p := ⟨w.heap.size + 1 + 1, 0, none⟩) (by simp; omega) _).setCell (p := ⟨w.heap.size + 1 + 1 + 1, 0, none⟩) (by simp; omega) _
      · rename_i m
        rw [ha] at HACC Q2 Q3
        dsimp only [Option.getD_some, Option.isSome_some, grS] at HACC Q2 Q3
        clear ha
        by_cases hm : m < wvx
        · have HACC := Lib.hid (show accO F n i lb wv (pre ++ [⟨(j, y), hx⟩]) = some wvx from by rw [HACC.out, if_pos hm])
          gi_wp2_with fail
          refine ⟨trivial, (CallsIn.inRound l (callsIn_wide.2 (HL.out _ hx _ HB.out))).mono ?_⟩
          rintro e X1 ⟨rfl, hb⟩
          rw [hlb]
          have HB1 := Lib.hid (HB.out.trans (hb.mono HB.out.size))
          have q4 := Boxed.cell (block_ext hb Q4.out); have q5 := Boxed.cell (block_ext hb Q5.out); have q2 := Boxed.cell (block_ext hb Q2.out); have q3 := Boxed.cell (block_ext hb Q3.out)
          have HE1 := Lib.hid hb
          have x0 := cell_of_row _ _ 0 _ _ _ (block_ext hb QX.out); have x1 := cell_of_row _ _ 1 _ _ _ (block_ext hb QX.out); have x2 := cell_of_row _ _ 2 _ _ _ (block_ext hb QX.out)
          simp at x0 x1 x2
          clear hb
          gi_wp2_with fail
          refine ⟨trivial, (CallsIn.inRound l (callsIn_wide.2 (HWV2.out _ HB1.out))).mono ?_⟩
          rintro e X2 ⟨rfl, hb⟩
          have HB2 := Lib.hid (HB1.out.trans (hb.mono HB1.out.size))
          have HE2 := Lib.hid (HE1.out.trans hb)
          clear q4 q5 q2 q3 x0 x1 x2 hb
          have b2 : Boxed X2 _ _ _ := block_ext HE2.out Q2.out
          have b3 : Boxed X2 _ _ _ := block_ext HE2.out Q3.out
          have b4 : Boxed X2 _ _ _ := block_ext HE2.out Q4.out
          have b5 : Boxed X2 _ _ _ := block_ext HE2.out Q5.out
          have q2 := b2.cell; have q3 := b3.cell; have f2 := b2.frozen; have f3 := b3.frozen
          have hs2 := b2.lt; have hs3 := b3.lt
          have P2 := Lib.hid b2; have P3 := Lib.hid b3; have P4 := Lib.hid b4; have P5 := Lib.hid b5
          clear b2 b3 b4 b5
          gi_wp2
          refine ⟨((ext_keeps HE2.out).trans ((KeepsOthers.setCell _ _ _).trans (KeepsOthers.setCell _ _ _))).from _, (KeepC.ext HE2.out).trans ((KeepC.set _ (by simp) _).trans (KeepC.set _ (by simp) _)), ⟨⟨?_, ?_, ?_, ?_⟩, ?_⟩⟩
          · rw [HACC.out]; exact (P2.out.set _).other (B' := w.heap.size + 1 + 1 + 1) (by omega) _
          · rw [HACC.out]; exact Boxed.set _ (P3.out.other (B' := w.heap.size + 1 + 1) (by omega) _)
          · exact (P4.out.other (B' := w.heap.size + 1 + 1) (by omega) _).other (B' := w.heap.size + 1 + 1 + 1) (by omega) _
          · exact (P5.out.other (B' := w.heap.size + 1 + 1) (by omega) _).other (B' := w.heap.size + 1 + 1 + 1) (by omega) _
          · exact (HB2.out.setCell (p := ⟨w.heap.size + 1 + 1, 0, none⟩) (by simp; omega) _).setCell (p := ⟨w.heap.size + 1 + 1 + 1, 0, none⟩) (by simp; omega) _
        · have HACC := Lib.hid (show accO F n i lb wv (pre ++ [⟨(j, y), hx⟩]) = some m from by rw [HACC.out, if_neg hm])
          have hmd : decide (m < wvx) = false := decide_eq_false hm
          gi_wp2_with fail
          refine ⟨trivial, (CallsIn.inRound l (callsIn_wide.2 (HL.out _ hx _ HB.out))).mono ?_⟩
          rintro e X1 ⟨rfl, hb⟩
          rw [hlb]
          have HB1 := Lib.hid (HB.out.trans (hb.mono HB.out.size))
          have q4 := Boxed.cell (block_ext hb Q4.out); have q5 := Boxed.cell (block_ext hb Q5.out); have q2 := Boxed.cell (block_ext hb Q2.out); have q3 := Boxed.cell (block_ext hb Q3.out)
          have HE1 := Lib.hid hb
          have x0 := cell_of_row _ _ 0 _ _ _ (block_ext hb QX.out); have x1 := cell_of_row _ _ 1 _ _ _ (block_ext hb QX.out); have x2 := cell_of_row _ _ 2 _ _ _ (block_ext hb QX.out)
          simp at x0 x1 x2
          clear hb
          gi_wp2_with fail
          refine ⟨trivial, (CallsIn.inRound l (callsIn_wide.2 (HWV2.out _ HB1.out))).mono ?_⟩
          rintro e X2 ⟨rfl, hb⟩
          have HB2 := Lib.hid (HB1.out.trans (hb.mono HB1.out.size))
          have HE2 := Lib.hid (HE1.out.trans hb)
          clear q4 q5 q2 q3 x0 x1 x2 hb
          have b2 : Boxed X2 _ _ _ := block_ext HE2.out Q2.out
          have b3 : Boxed X2 _ _ _ := block_ext HE2.out Q3.out
          have b4 : Boxed X2 _ _ _ := block_ext HE2.out Q4.out
          have b5 : Boxed X2 _ _ _ := block_ext HE2.out Q5.out
          have q2 := b2.cell; have q3 := b3.cell; have f2 := b2.frozen; have f3 := b3.frozen
          have hs2 := b2.lt; have hs3 := b3.lt
          have P2 := Lib.hid b2; have P3 := Lib.hid b3; have P4 := Lib.hid b4; have P5 := Lib.hid b5
          clear b2 b3 b4 b5
          gi_wp2
          have HEND := HE2; have HBE := HB2
          refine ⟨(ext_keeps HEND.out).from _, KeepC.ext HEND.out, ⟨⟨?_, ?_, ?_, ?_⟩, HBE.out⟩⟩
          · rw [HACC.out]; exact block_ext HEND.out Q2.out
          · rw [HACC.out]; exact block_ext HEND.out Q3.out
          · exact block_ext HEND.out Q4.out
          · exact block_ext HEND.out Q5.out
  case done =>
    rintro D ys W hD hS ⟨⟨q2, q3, q4, q5⟩, hB⟩ hK
    have d2 := q2.cell
    have hfin : (accO F n i lb wv ys).getD 0 = gr (((partsL F n i).filter lb).map wv) := by unfold accO gr; rw [show pv F n i ys = partsL F n i from hS]
    rw [hfin] at d2
    have HK := Lib.hid hK; have HB := Lib.hid hB
    obtain ⟨G, hG⟩ : ∃ G, G = gr (((partsL F n i).filter lb).map wv) := ⟨_, rfl⟩
    rw [← hG] at d2
    have HG := Lib.hid hG
    clear hG hK q2 q3 q4 q5 hB hfin b2 b3 b4 b5
    gi_wp2
    refine ⟨by simp, .inl ⟨_, _, rfl, run_takeDeferred HK.out, ?_⟩⟩
    refine ⟨_, results_tmp rfl _ _ _, by rw [HG.out]; rfl, ?_⟩
    exact HB.out.trans (belowK_b (w := w) (Nat.le_refl _) _ D _ _ (by omega) HK.out rfl rfl)
  case stop =>
    rintro D c pre W _ _ h _
    exact h.elim
end Go.Proofs.Ytcgheakadfjofaa
