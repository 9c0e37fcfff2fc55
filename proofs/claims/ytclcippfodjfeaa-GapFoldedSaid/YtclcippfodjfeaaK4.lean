/- runs, by its contract. -/
import Derived.Test.YtclcippfodjfeaaK3
import Derived.Test.YtclcippfodjfeaaN14
import Derived.Test.YtclcippfodjfeaaZL
import Derived.Deep.LoopGhost
namespace Go.Proofs.Ytclcippfodjfeaa
open Go.RowKit Go.Shelf
set_option linter.unusedVariables false
set_option linter.unusedSimpArgs false
attribute [local go_sem] Oper.semAt_some
theorem OwnH.grown {B b n : Nat} {w w' : World} {v : Value} {hs : List Value} {rows : Nat → List Nat} (h : OwnH B w v n hs rows) (hg : w.grownBy w' (some b)) (hb : b < B) : OwnH B w' v n hs rows := by
  refine ⟨?_, fun i hd h1 => (h.row i hd h1).grown hg hb⟩
  obtain ⟨h1, h2⟩ := h.own
  refine ⟨h1, h2.imp id ?_⟩
  rintro ⟨g, cap, cur, rfl, hgb, hh, r⟩
  exact ⟨g, cap, cur, rfl, hgb, (other_blk hg (by omega) (lt_of_blk hh)).trans hh, r⟩
theorem OwnH.keep {B n : Nat} {w w' : World} {v : Value} {hs : List Value} {rows : Nat → List Nat} {rs : List Nat} {c : Nat} (h : OwnH B w v n hs rows) (hk : Keep rs c w w') (hrs : ∀ r ∈ rs, r < B) : OwnH B w' v n hs rows := by
  refine ⟨?_, fun i hd h1 => (h.row i hd h1).keep hk hrs⟩
  obtain ⟨h1, h2⟩ := h.own
  refine ⟨h1, h2.imp id ?_⟩
  rintro ⟨g, cap, cur, rfl, hgb, hh, r⟩
  exact ⟨g, cap, cur, rfl, hgb, hk.blk (fun hm => by have := hrs g hm; omega) hh, r⟩
theorem OwnH.congr {B n : Nat} {w : World} {v : Value} {hs : List Value} {rows rows' : Nat → List Nat} (h : OwnH B w v n hs rows) (he : ∀ i, i < n → rows i = rows' i) : OwnH B w v n hs rows' :=
  ⟨h.own, fun i hd h1 => by
    have hl : i < hs.length := (List.getElem?_eq_some_iff.1 h1).1
    rw [← he i (by rw [← h.len]; exact hl)]; exact h.row i hd h1⟩
theorem OwnH.turn {B n : Nat} {A C : World} {v : Value} {hs : List Value} {rows : Nat → List Nat} (h : OwnH B A v n hs rows) {base : Nat} {row : Option Nat} (hg : A.grownBy C row) (hr : ∀ r, row = some r → base ≤ r ∧ ∃ o : Obj, A.heap[r]? = some o ∧ o.isCells = false) : OwnH B C v n hs rows := by
  refine ⟨?_, fun i hd h1 => ?_⟩
  · obtain ⟨h1, h2⟩ := h.own
    refine ⟨h1, h2.imp id ?_⟩
    rintro ⟨g, cap, cur, rfl, hgb, hh, r⟩
    exact ⟨g, cap, cur, rfl, hgb, cells_turn hh hg hr, r⟩
  · obtain ⟨q1, q2⟩ := h.row i hd h1
    refine ⟨q1, q2.imp id ?_⟩
    rintro ⟨g, cap, cur, rfl, hgb, hh, r⟩
    exact ⟨g, cap, cur, rfl, hgb, cells_turn hh hg hr, r⟩
theorem OwnH.push {B n : Nat} {w w' : World} {v v' h : Value} {hs : List Value} {rows : Nat → List Nat} (hown : OwnH B w v n hs rows) (r1 : w'.ownsRow B 23 1 v' (n + 1) (hs ++ [h])) (r2 : w.grownBy w' v.ownBlock) (hi : OwnI 3 B w h (natI (rows n))) : OwnH B w' v' (n + 1) (hs ++ [h]) rows := by
  have hlen := hown.len
  refine ⟨r1, fun i hd hi2 => ?_⟩
  by_cases e : i < n
  · rw [List.getElem?_append_left (by omega)] at hi2
    exact (hown.row i hd hi2).other hown.own (by decide) r2
  · rw [List.getElem?_append_right (by omega)] at hi2
    have : i = n := by
      have := (List.getElem?_eq_some_iff.1 hi2).1
      simp at this; omega
    subst this
    rw [show i - hs.length = 0 by omega] at hi2
    simp at hi2
    subst hi2
    exact hi.other hown.own (by decide) r2
theorem OwnH.putNot {B D n : Nat} {w : World} {o o' : Obj} {v : Value} {hs : List Value} {rows : Nat → List Nat} (h : OwnH B w v n hs rows) (hd : w.heap[D]? = some o) (ho : o.isCells = false) : OwnH B (w.putObj D o') v n hs rows := by
  refine ⟨?_, fun i hd1 h1 => (h.row i hd1 h1).putNot hd ho⟩
  obtain ⟨q1, q2⟩ := h.own
  refine ⟨q1, q2.imp id ?_⟩
  rintro ⟨g, cap, cur, rfl, hgb, hh, r⟩
  refine ⟨g, cap, cur, rfl, hgb, ?_, r⟩
  rw [World.putObj_heap_other (by rintro rfl; rw [hh] at hd; cases hd; cases ho)]
  exact hh
theorem OwnH.weakB {B C n : Nat} {w : World} {v : Value} {hs : List Value} {rows : Nat → List Nat} (h : OwnH B w v n hs rows) (hb : C ≤ B) : OwnH C w v n hs rows := by
  refine ⟨?_, fun i hd1 h1 => (h.row i hd1 h1).weakB hb⟩
  obtain ⟨q1, q2⟩ := h.own
  refine ⟨q1, q2.imp id ?_⟩
  rintro ⟨g, cap, cur, rfl, hgb, r⟩
  exact ⟨g, cap, cur, rfl, Nat.le_trans hb hgb, r⟩
theorem Keep.belowC {rs : List Nat} {c B : Nat} {w A X : World} (h : Keep rs c w A) (hb : Below B A X) (hs : w.heap.size ≤ B) : Keep rs c w X :=
  ⟨hb.os.trans h.os, hb.tape.trans h.tape, hb.output.trans h.output, Nat.le_trans h.size hb.size, fun k hk hn => (hb.block k (by omega)).trans (h.block k hk hn), fun b o v hm ho hv => by
    have hlt : b < B := Nat.lt_of_lt_of_le (lt_of_cell hv) hs
    have h1 := h.head b o v hm ho hv
    rw [hb.cell (p := ⟨b, o, none⟩) hlt]; exact h1⟩
theorem KeepT.belowB {rs : List Nat} {b e B : Nat} {A X : World} (h : KeepT rs b e A X) (hB : B ≤ A.heap.size) (hrs : ∀ r ∈ rs, B ≤ r) (hb : B ≤ b) : Below B A X :=
  ⟨h.os, h.tape, h.output, h.size, fun k hk => h.block k (by omega) (fun hm => by have := hrs k hm; omega) (fun ⟨h2, _⟩ => by omega)⟩
theorem Keep.belowB {rs : List Nat} {c B : Nat} {A X : World} (h : Keep rs c A X) (hB : B ≤ A.heap.size) (hrs : ∀ r ∈ rs, B ≤ r) : Below B A X :=
  ⟨h.os, h.tape, h.output, h.size, fun k hk => h.block k (by omega) (fun hm => by have := hrs k hm; omega)⟩
theorem oneI (w : World) (x : Int) : OwnI 3 w.heap.size (w.alloc (.cells #[.int .i64 x] 3)) (.slice (some ⟨w.heap.size, 0, none⟩) 1 1) [x] :=
  ⟨rfl, .inr ⟨w.heap.size, 1, #[.int .i64 x], rfl, Nat.le_refl _, heap_alloc_new _ _, by simp, by unfold maxLen; decide, rfl, rfl⟩⟩
def rowsL (b : List (List Nat)) (ys : List Nat) (i : Nat) : List Nat := (b ++ ys.map fun x => [x]).getD i []
theorem rowsL_nil {b : List (List Nat)} {i : Nat} (h : i < b.length) : b.getD i [] = rowsL b [] i := by unfold rowsL; simp
theorem rowsL_snoc {b : List (List Nat)} {ys : List Nat} {x i : Nat} (h : i < b.length + ys.length) : rowsL b ys i = rowsL b (ys ++ [x]) i := by
  unfold rowsL
  rw [List.map_append, ← List.append_assoc, List.getD_eq_getElem?_getD, List.getD_eq_getElem?_getD, List.getElem?_append_left (l₁ := b ++ ys.map fun x => [x]) (by simpa using h)]
theorem rowsL_last {b : List (List Nat)} {ys : List Nat} {x : Nat} : rowsL b (ys ++ [x]) (b.length + ys.length) = [x] := by
  unfold rowsL
  rw [List.map_append, ← List.append_assoc, List.getD_eq_getElem?_getD, List.getElem?_append_right (by simp)]
  simp
def Fr63 (Bn Br Bm : Nat) (A : Act) : Prop :=
  ∃ x0 x5 x6 x7 x8 x9 x10 x11 x12 x13 x14 x15 x16 x17 x18 x19 x20 x21 x22 x23 x24 x25 x26 x27 x28 x29 x30 x31 x32 x33 x34 x35 x36 x37 x38 x39 x40 x41 x42 x43 x44 x45 x46 x47 x48 x49 x50 : Value, A = { tmps := #[x0, .pointer (some ⟨Bn, 0, none⟩), .slice none 0 0, .pointer (some ⟨Br, 0, none⟩), .pointer (some ⟨Bm, 0, none⟩), x5, x6, x7, x8, x9, x10, x11, x12, x13, x14, x15, x16, x17, x18, x19, x20, x21, x22, x23, x24, x25, x26, x27, x28, x29, x30, x31, x32, x33, x34, x35, x36, x37, x38, x39, x40, x41, x42, x43, x44, x45, x46, x47, x48, x49, x50], defers := [] }
theorem Fr63.mk {Bn Br Bm : Nat} {x0 x5 x6 x7 x8 x9 x10 x11 x12 x13 x14 x15 x16 x17 x18 x19 x20 x21 x22 x23 x24 x25 x26 x27 x28 x29 x30 x31 x32 x33 x34 x35 x36 x37 x38 x39 x40 x41 x42 x43 x44 x45 x46 x47 x48 x49 x50 : Value} : Fr63 Bn Br Bm { tmps := #[x0, .pointer (some ⟨Bn, 0, none⟩), .slice none 0 0, .pointer (some ⟨Br, 0, none⟩), .pointer (some ⟨Bm, 0, none⟩), x5, x6, x7, x8, x9, x10, x11, x12, x13, x14, x15, x16, x17, x18, x19, x20, x21, x22, x23, x24, x25, x26, x27, x28, x29, x30, x31, x32, x33, x34, x35, x36, x37, x38, x39, x40, x41, x42, x43, x44, x45, x46, x47, x48, x49, x50], defers := [] } := ⟨x0, x5, x6, x7, x8, x9, x10, x11, x12, x13, x14, x15, x16, x17, x18, x19, x20, x21, x22, x23, x24, x25, x26, x27, x28, x29, x30, x31, x32, x33, x34, x35, x36, x37, x38, x39, x40, x41, x42, x43, x44, x45, x46, x47, x48, x49, x50, rfl⟩
theorem runAt_eq (n : Nat) (far : List Int) (m : Int) : runAt n (fa far) m = (List.range n).filter fun k => risF far k && decide (fa far (bef k) = m) := by
  unfold runAt
  refine List.filter_congr fun k _ => ?_
  show (decide _ && (_ == _)) = _
  rw [show (fa far (bef k) == m) = decide (fa far (bef k) = m) from by rw [Bool.eq_iff_iff]; simp]
  rfl
set_option maxRecDepth 100000 in
set_option maxHeartbeats 4000000 in
theorem runs63 (w₀ w : World) (bn : Nat) (a : Option Addr) (n cap : Nat) (row : List Int) (mf nf : Nat) (F : List Lk) (far : List Int) (last : List Lk) (p : Nat → Int) (res : St)
    (h : NetAt w₀ w bn a n cap row mf nf F far last) (hp : Pot (stepsL row F) p) (hB : ∀ v, p v ≤ 31) (hres : meas row F last = some res)
    (hm : 0 ≤ fa res.1 0 ∧ fa res.1 1 ≤ fa res.1 0 + 1000 ∧ fa res.1 0 ≤ fa res.1 1 ∧ fa res.1 0 ≤ 1000) :
    Calls Try.prog 63 #[.pointer (some ⟨bn, 0, none⟩)] w fun e w' => ∃ v hs, e = .returned v ∧ OwnH w.heap.size w' v (runsM n (fa res.1)).length hs (fun i => (runsM n (fa res.1)).getD i []) ∧ Keep [bn] 2 w w' := by
  refine (callsIn_wide (n := 12)).1 ?_
  obtain ⟨w1, hw1⟩ : ∃ w1, w1 = w.alloc (.cells #[.pointer (some ⟨bn, 0, none⟩)] 64) := ⟨_, rfl⟩
  have hE1 : Ext w w1 := by rw [hw1]; exact (Ext.refl w).alloc _
  have hb1 : Boxed w1 w.heap.size 64 (.pointer (some ⟨bn, 0, none⟩)) := by rw [hw1]; exact Boxed.new w 64 _
  have hz1 : w1.heap.size = w.heap.size + 1 := by rw [hw1]; simp
  have c1 := hb1.cell
  have hn30 := h.le
  have hlt := h.net.lt; have hwb := h.base.size
  have C64 := Lib.hid (measure64 w₀ w1 bn a n cap row mf nf F far last p res (h.ext hE1) hp hB hres)
  have HE1 := Lib.hid hE1; have HB1 := Lib.hid hb1; have HM := Lib.hid hm
  clear hp hB hres h hE1 hb1 hm
  refine callsIn_of_wp_marks Try.func63 rfl trivial ?_ rfl
  simp only [Try.ntmps63, List.size_toArray, List.length_cons, List.length_nil, Nat.reduceAdd, Nat.reduceSub, Array.replicate_succ, Array.replicate_zero, List.push_toArray, List.append_toArray, List.nil_append, List.cons_append]
  refine wpIn_wide.2 ?_
  go_upto_region 1 with fail
  rw [← hw1]
  clear hw1
  go_wp2_with fail
  refine C64.out.mono ?_
  rintro e w2 ⟨⟨vm, rfl⟩, hN2, hK2⟩
  clear C64
  have hwn : w.heap.size ∉ [bn] := by simp; omega
  have hb2 := hK2.boxed hwn HB1.out
  have hs2 := hK2.size
  obtain ⟨wc, hwc⟩ : ∃ wc, wc = w2.alloc (.cells #[.slice none 0 0] 40) := ⟨_, rfl⟩
  have hEc : Ext w2 wc := by rw [hwc]; exact (Ext.refl w2).alloc _
  have hbc : Boxed wc w2.heap.size 40 (.slice none 0 0) := by rw [hwc]; exact Boxed.new w2 40 _
  have hzc : wc.heap.size = w2.heap.size + 1 := by rw [hwc]; simp
  have HN := Lib.hid (hN2.ext hEc); have HBN := Lib.hid (boxed_later hb2 hEc); have HBR := Lib.hid hbc
  have HK := Lib.hid (((Keep.ext (c := 2) HE1.out).trans hK2).trans (Keep.ext hEc))
  obtain ⟨m0, hm0⟩ : ∃ m0, m0 = fa res.1 0 := ⟨_, rfl⟩
  obtain ⟨m1, hm1⟩ : ∃ m1, m1 = fa res.1 1 := ⟨_, rfl⟩
  have HM0 := Lib.hid hm0; have HM1 := Lib.hid hm1
  have f0 := HN.out.net.farAt (i := 0) (by omega); have f1 := HN.out.net.farAt (i := 1) (by omega)
  rw [← hm0, Nat.add_zero] at f0
  rw [← hm1] at f1
  have cb := HBN.out.cell
  have hM := HM.out
  rw [← hm0, ← hm1] at hM
  obtain ⟨q0, q1, q2, q3⟩ := hM
  clear hN2 hK2 hb2 hEc hbc hm0 hm1 c1
  go_upto_region 3 with fail
  rw [← hwc]
  clear hwc
  go_wp2
  generalize hW3 : wc.alloc (.cells #[.int .i64 m0] 3) = W3 at *
  have HB3 := Lib.hid (show Boxed W3 wc.heap.size 3 (.int .i64 m0) from by rw [← hW3]; exact Boxed.new wc 3 _)
  have HE3 := Lib.hid (show Ext wc W3 from by rw [← hW3]; exact (Ext.refl wc).alloc _)
  have hz3 : W3.heap.size = wc.heap.size + 1 := by rw [← hW3]; simp
  clear hW3
  obtain ⟨bs, hbs⟩ : ∃ bs, bs = (List.range (m1 - m0).toNat).map fun (k : Nat) => runAt n (fa res.1) (m0 + (k : Int)) := ⟨_, rfl⟩
  obtain ⟨R, hR⟩ : ∃ R : Nat → List Nat, R = fun i => bs.getD i [] := ⟨_, rfl⟩
  have HR := Lib.hid hR; have HBS := Lib.hid hbs; clear hR hbs
  refine wp_loop_ghost (fun N A wr => ∃ (k Bm : Nat) (v : Value) (hs : List Value), k + N = (m1 - m0).toNat ∧ Fr63 w.heap.size w2.heap.size Bm A ∧ wc.heap.size ≤ Bm ∧ Hid (Boxed wr Bm 3 (.int .i64 (m0 + (k : Int)))) ∧ Hid (Boxed wr w2.heap.size 40 v) ∧ Hid (OwnH wc.heap.size wr v k hs R) ∧ Hid (Keep [w2.heap.size] 0 wc wr)) (m1 - m0).toNat ?start ?round
  case start => exact ⟨0, w2.heap.size + 1, _, [], by omega, Fr63.mk, by omega, by rw [← hzc]; simpa using HB3, Lib.hid (boxed_later HBR.out HE3.out), Lib.hid (OwnH.nil _ _ _), Lib.hid (Keep.ext HE3.out)⟩
  case round =>
    rintro N A wr ⟨k, Bm, v, hs, hkN, ⟨x0, x5, x6, x7, x8, x9, x10, x11, x12, x13, x14, x15, x16, x17, x18, x19, x20, x21, x22, x23, x24, x25, x26, x27, x28, x29, x30, x31, x32, x33, x34, x35, x36, x37, x38, x39, x40, x41, x42, x43, x44, x45, x46, x47, x48, x49, x50, rfl⟩, hBm, hBM, hBRR, hO, hKP⟩
    obtain ⟨av, capv, rfl⟩ := hO.out.shape
    have hmfl := HN.out.flow.lt; have hnl := HN.out.net.lt; have hne := HN.out.ne; have hb2l := HN.out.base.size
    have hbnw : bn ≠ w2.heap.size := by omega
    have hks := hKP.out.size
    have dn := hKP.out.cell (by simp; omega) HBN.out.cell
    have db := hKP.out.cell (by simp; omega) HN.out.net.wanted
    have d1 := hKP.out.cell (by simp; omega) f1
    have dm := hBM.out.cell
    have dr := hBRR.out.cell
    by_cases hlt2 : m0 + (k : Int) < m1
    · clear f0 f1 cb
      have hNB := (HN.out.net.keep hKP.out (by simp; omega))
      have HNB := Lib.hid hNB; clear hNB
      have HRK := Lib.hid (show ((List.range n).filter fun q => risF res.1 q && decide (fa res.1 (bef q) = m0 + (k : Int))) = R k from by
        rw [HR.out, HBS.out, ← runAt_eq]
        dsimp only
        rw [List.getD_eq_getElem?_getD, List.getElem?_map, List.getElem?_range (by omega)]; rfl)
      go_upto_region 4 with fail
      refine wp_region_order (fun X : World => X.cell? ⟨Bm, 0, none⟩ = some (.int .i64 (m0 + (k : Int))) ∧ X.cell? ⟨w.heap.size, 0, none⟩ = some (.pointer (some ⟨bn, 0, none⟩)) ∧ X.cell? ⟨bn, 2 + 1, none⟩ = some (.int .i64 m1) ∧ Hid (Ext wr X)) [0, 1, 2, 3, 4, 5, 6] (by kernel_rfl) (by kernel_rfl) (by exact ⟨dm, dn, d1, Lib.hid (Ext.refl _).drew⟩) (fun hHeld => ?_)
      simp only [opsIn, List.filterMap_cons, List.filterMap_nil, List.getElem?_toArray, List.getElem?_cons_succ, List.getElem?_cons_zero]
      refine' text_chunk 7 (by kernel_rfl) hHeld ?ck1 ?cr1
      case ck1 =>
        intro W hSw
        have hSW := hSw
        try dsimp only at hSW
        clear hSw
        simp only [List.take_succ_cons, List.take_zero, List.drop_succ_cons, List.drop_zero]
        repeat (go_big_quiet_step (fail))
        exact wpQuiet_nil rfl
      simp only [List.take_succ_cons, List.take_zero, List.drop_succ_cons, List.drop_zero]
      refine text_done ?_
      go_upto_region 7 with fail
      refine wp_orderL (fun X : World => X.cell? ⟨w2.heap.size, 0, none⟩ = some (.slice av k capv) ∧ X.cell? ⟨w.heap.size, 0, none⟩ = some (.pointer (some ⟨bn, 0, none⟩)) ∧ X.cell? ⟨bn, 0, none⟩ = some (.slice a n cap)) [0, 1, 2, 3, 4, 6, 5, 7, 8, 9, 10, 11] 11 (by kernel_rfl) (by kernel_rfl) (by kernel_rfl) (by exact ⟨dr, dn, db⟩) (fun hHeld => ?_)
      simp only [opsIn, List.filterMap_cons, List.filterMap_nil, List.getElem?_toArray, List.getElem?_cons_succ, List.getElem?_cons_zero]
      refine' textL_chunk 6 (by kernel_rfl) hHeld ?ck2 ?cr2
      case ck2 =>
        intro W hSw
        have hSW := hSw
        try dsimp only at hSW
        clear hSw
        simp only [List.take_succ_cons, List.take_zero, List.drop_succ_cons, List.drop_zero]
        repeat (go_big_quiet_step (fail))
        exact wpQuiet_nil rfl
      simp only [List.take_succ_cons, List.take_zero, List.drop_succ_cons, List.drop_zero]
      refine textL_callW (by rfl) (by rfl) (fun K hK => ?_)
      go_simp
      go_at_call 82
      refine (logs82 _ _).mono ?_
      rintro e w5 ⟨rfl, rfl⟩
      have HE5 := Lib.hid ((Ext.refl wr.drew.drew).alloc (.cells #[.slice a n cap] 57))
      have HX5 := Lib.hid (((Ext.refl wr).drew.drew).trans HE5.out)
      have B57 := Lib.hid (Boxed.new wr.drew.drew 57 (.slice a n cap))
      simp only [World.size_drew] at B57
      all_goals (try (go_wp2_with fail))
      refine hK.out _ _ (by exact ⟨cell_ext HE5.out hHeld.1, cell_ext HE5.out hHeld.2.1, cell_ext HE5.out hHeld.2.2⟩) (fun hHeld => ?_)
      clear hK K
      try simp only [Act.put, List.setIfInBounds_toArray, List.set_cons_zero, List.set_cons_succ]
      refine textL_callW (by rfl) (by rfl) (fun K hK => ?_)
      go_simp
      go_at_call 81
      refine (only81 _ _ _ 95 _ rfl 78 _ _ rfl).mono ?_
      rintro e w5 ⟨rfl, rfl⟩
      have E81 := Lib.hid (((Ext.refl (wr.alloc (.cells #[.slice a n cap] 57)).drew.drew).alloc (.cells #[.func (.func 95) #[] #[.pointer (some ⟨wr.heap.size, 0, none⟩)]] 93)).alloc (.cells #[.func (.func 78) #[] #[.pointer (some ⟨w.heap.size, 0, none⟩), .pointer (some ⟨Bm, 0, none⟩)]] 96))
      have B96 := Lib.hid (Boxed.new ((wr.alloc (.cells #[.slice a n cap] 57)).drew.drew.alloc (.cells #[.func (.func 95) #[] #[.pointer (some ⟨wr.heap.size, 0, none⟩)]] 93)) 96 (.func (.func 78) #[] #[.pointer (some ⟨w.heap.size, 0, none⟩), .pointer (some ⟨Bm, 0, none⟩)]))
      have B93 := Lib.hid ((Boxed.new (wr.alloc (.cells #[.slice a n cap] 57)).drew.drew 93 (.func (.func 95) #[] #[.pointer (some ⟨wr.heap.size, 0, none⟩)])).alloc (.cells #[.func (.func 78) #[] #[.pointer (some ⟨w.heap.size, 0, none⟩), .pointer (some ⟨Bm, 0, none⟩)]] 96))
      simp at B93 B96
      have HX6 := Lib.hid (((Ext.refl wr).alloc (.cells #[.slice a n cap] 57)).drew.drew.trans E81.out)
      have B57 := Lib.hid (boxed_later (show Boxed (wr.alloc (.cells #[.slice a n cap] 57)).drew.drew wr.heap.size 57 (.slice a n cap) from Boxed.new wr 57 _) E81.out)
      all_goals (try (go_wp2_with fail))
      refine hK.out _ _ (by exact ⟨cell_ext E81.out hHeld.1, cell_ext E81.out hHeld.2.1, cell_ext E81.out hHeld.2.2⟩) (fun hHeld => ?_)
      clear hK K
      try simp only [Act.put, List.setIfInBounds_toArray, List.set_cons_zero, List.set_cons_succ]
      refine textL_callW (by rfl) (by rfl) (fun K hK => ?_)
      go_simp
      go_at_call 80
      refine (collect_only _ _ _ _ n cap 78 a _ _ (fun q => risF res.1 q && decide (fa res.1 (bef q) = m0 + (k : Int))) (by omega) B57.out B93.out B96.out (enters_of Try.func78 (by kernel_rfl) rfl) (fun X x hx hX => ?_)).mono ?_
      · have hXX : Ext wr X := HX6.out.trans hX
        exact runs78 X bn w.heap.size Bm _ mf res.1 _ x (m0 + (k : Int)) (HNB.out.ext hXX) (by omega) (cell_ext hXX dn) (cell_ext hXX dm)
      rintro e w6 ⟨u, rfl, hU, hE6⟩
      have HE6 := Lib.hid hE6; have HX7 := Lib.hid (HX6.out.trans hE6); clear hE6
      rw [HRK.out] at hU
      obtain ⟨au, capu, rfl, hcu⟩ := hU.shape
      obtain ⟨lu, hlu⟩ : ∃ lu, lu = (natI (R k)).length := ⟨_, rfl⟩
      rw [← hlu] at hU hcu ⊢
      have hU2 : OwnI 3 wc.heap.size w6 (.slice au lu capu) (natI (R k)) := hU.weakB (by simp; omega)
      have HU := Lib.hid hU2; clear hU hU2 hlu
      all_goals (try (go_wp2_with fail))
      refine hK.out _ _ (by exact ⟨cell_ext HE6.out hHeld.1, cell_ext HE6.out hHeld.2.1, cell_ext HE6.out hHeld.2.2⟩) (fun hHeld => ?_)
      clear hK K B57 B93 B96 E81 HX6 HE6 HX5 HE5
      try simp only [Act.put, List.setIfInBounds_toArray, List.set_cons_zero, List.set_cons_succ]
      refine textL_callW (by rfl) (by rfl) (fun K hK => ?_)
      go_simp
      have E4 := Lib.hid ((Ext.refl w6).alloc (.cells #[.slice au lu capu] 23))
      all_goals (try (go_wp2_with fail))
      refine hK.out _ _ (by exact ⟨cell_ext E4.out hHeld.1, cell_ext E4.out hHeld.2.1, cell_ext E4.out hHeld.2.2⟩) (fun hHeld => ?_)
      clear hK K
      try simp only [Act.put, List.setIfInBounds_toArray, List.set_cons_zero, List.set_cons_succ]
      obtain ⟨v8, w8, hrun, hO8, hB8, hK8⟩ := appendH_run (w6.alloc (.cells #[.slice au lu capu] 23)) wc.heap.size k hs R (.slice av k capv) (.slice au lu capu) (hO.out.ext (HX7.out.trans E4.out)) (by have := HX7.out.size; simp; omega) (by omega) w6.heap.size (World.cell?_alloc_at _ _ _ _ rfl) rfl (HU.out.ext E4.out) 40
      obtain ⟨a8, cap8, rfl⟩ := hO8.shape
      have hXE := HX7.out.trans E4.out
      have HO8 := Lib.hid hO8
      have HK8 := Lib.hid (Keep.below hB8 (by have := hXE.size; omega) (hKP.out.trans (Keep.ext hXE)) (Nat.le_refl _))
      have b8 := (hB8.block w2.heap.size (by omega)).trans (block_ext hXE hBRR.out)
      have HB8 := Lib.hid b8
      have HM8 := Lib.hid (hK8 Bm _ 3 (by decide) (block_ext hXE hBM.out))
      have g1 : w8.cell? ⟨w.heap.size, 0, none⟩ = some (.pointer (some ⟨bn, 0, none⟩)) := by rw [hB8.cell (p := ⟨w.heap.size, 0, none⟩) (by show w.heap.size < _; omega)]; exact cell_ext hXE dn
      have g2 : w8.cell? ⟨bn, 0, none⟩ = some (.slice a n cap) := by rw [hB8.cell (p := ⟨bn, 0, none⟩) (by show bn < _; omega)]; exact cell_ext hXE db
      have g3 := cell_of_blk b8 (o := 0) rfl
      have g4 := frozen_of_blk b8 0
      clear hO8 hB8 hK8 hXE b8
      refine textL_callW (by rfl) (by rfl) (fun K hK => ?_)
      refine oper_append40 _ _ rfl rfl rfl hrun ?_
      refine hK.out _ _ (by exact ⟨g3, g1, g2⟩) (fun hHeld => ?_)
      clear hK K hrun hHeld
      try simp only [Act.put, List.setIfInBounds_toArray, List.set_cons_zero, List.set_cons_succ]
      refine textL_lastW (by rfl) (by rfl) (fun K hK => ?_)
      go_simp
      refine hK.out _ _ ?_
      clear hK K
      generalize hW7 : w8.setCell ⟨w2.heap.size, 0, none⟩ (.slice a8 (k + 1) cap8) = W7
      have k7 : Keep [w2.heap.size] 0 w8 W7 := by rw [← hW7]; exact Keep.set (c := 0) w8 (rs := [w2.heap.size]) (b := w2.heap.size) (o := 0) (by simp) (by omega) _
      have hb7 : Boxed W7 w2.heap.size 40 (.slice a8 (k + 1) cap8) := by rw [← hW7]; exact boxed_set HB8.out _
      have hm7 : Boxed W7 Bm 3 (.int .i64 (m0 + (k : Int))) := k7.boxed (by simp; omega) HM8.out
      have HB7 := Lib.hid hb7; have HM7 := Lib.hid hm7; have HO7 := Lib.hid (HO8.out.keep k7 (by simp; omega)); have HK7 := Lib.hid (HK8.out.trans k7)
      have c7 := hm7.cell
      clear g1 g2 g3 g4 HB8 HM8 HO8 HK8 k7 hb7 hm7 hW7 dn db d1 dm dr E4 HX7
      go_wp2
      exact ⟨N - 1, by omega, k + 1, W7.heap.size, _, _, by omega, Fr63.mk, by have := HK7.out.size; omega, Lib.hid (by
        rw [show m0 + ((k + 1 : Nat) : Int) = m0 + (k : Int) + 1 from by push_cast; omega]; exact Boxed.new W7 3 _), Lib.hid (boxed_later HB7.out ((Ext.refl W7).alloc _)), Lib.hid (HO7.out.ext ((Ext.refl W7).alloc _)), Lib.hid (HK7.out.trans (Keep.ext ((Ext.refl W7).alloc _)))⟩
    · clear f0 f1 cb d1
      have hzlt : w2.heap.size < wc.heap.size := by omega
      clear hzc
      have hd1 : decide (m0 + (k : Int) < m1) = false := decide_eq_false hlt2
      have HNB := Lib.hid (HN.out.net.keep hKP.out (by simp; omega))
      have HBL := Lib.hid (show bs.length = k from by rw [HBS.out]; simp; omega)
      have HO := Lib.hid (show OwnH wc.heap.size wr (.slice av k capv) k hs (rowsL bs []) from hO.out.congr (fun i hi => by rw [HR.out]; exact rowsL_nil (by rw [HBL.out]; exact hi)))
      have HRUNS := Lib.hid (show runsM n (fa res.1) = bs ++ ((List.range n).filter fun q => !risF res.1 q).map fun i => [i] from by
        unfold runsM; rw [HBS.out, HM0.out, HM1.out]; rfl)
      clear hO
      have d1 := hKP.out.cell (by simp; omega) (HN.out.net.farAt (i := 1) (by omega))
      rw [← HM1.out] at d1
      go_upto_region 4 with fail
      refine wp_region_order (fun X : World => X.cell? ⟨Bm, 0, none⟩ = some (.int .i64 (m0 + (k : Int))) ∧ X.cell? ⟨w.heap.size, 0, none⟩ = some (.pointer (some ⟨bn, 0, none⟩)) ∧ X.cell? ⟨bn, 2 + 1, none⟩ = some (.int .i64 m1) ∧ Hid (Ext wr X)) [0, 1, 2, 3, 4, 5, 6] (by kernel_rfl) (by kernel_rfl) (by exact ⟨dm, dn, d1, Lib.hid (Ext.refl _).drew⟩) (fun hHeld => ?_)
      simp only [opsIn, List.filterMap_cons, List.filterMap_nil, List.getElem?_toArray, List.getElem?_cons_succ, List.getElem?_cons_zero]
      refine' text_chunk 7 (by kernel_rfl) hHeld ?ck3 ?cr3
      case ck3 =>
        intro W hSw
        have hSW := hSw
        try dsimp only at hSW
        clear hSw
        simp only [List.take_succ_cons, List.take_zero, List.drop_succ_cons, List.drop_zero]
        repeat (go_big_quiet_step (fail))
        exact wpQuiet_nil rfl
      simp only [List.take_succ_cons, List.take_zero, List.drop_succ_cons, List.drop_zero]
      refine text_done ?_
      clear hHeld
      go_upto_region 10 with fail
      refine wp_region_order (fun X : World => X.cell? ⟨w.heap.size, 0, none⟩ = some (.pointer (some ⟨bn, 0, none⟩)) ∧ X.cell? ⟨bn, 0, none⟩ = some (.slice a n cap)) [0, 1, 2, 3, 5, 6, 4, 7] (by kernel_rfl) (by kernel_rfl) (by exact ⟨dn, db⟩) (fun hHeld => ?_)
      simp only [opsIn, List.filterMap_cons, List.filterMap_nil, List.getElem?_toArray, List.getElem?_cons_succ, List.getElem?_cons_zero]
      refine' text_chunk 6 (by kernel_rfl) hHeld ?ck4 ?cr4
      case ck4 =>
        intro W hSw
        have hSW := hSw
        try dsimp only at hSW
        clear hSw
        simp only [List.take_succ_cons, List.take_zero, List.drop_succ_cons, List.drop_zero]
        repeat (go_big_quiet_step (fail))
        exact wpQuiet_nil rfl
      simp only [List.take_succ_cons, List.take_zero, List.drop_succ_cons, List.drop_zero]
      refine text_call (by rfl) (by rfl) (fun K hK => ?_)
      go_simp
      go_at_call 82
      refine (logs82 _ _).mono ?_
      rintro e w5 ⟨rfl, rfl⟩
      have HE5 := Lib.hid ((Ext.refl wr.drew.drew).alloc (.cells #[.slice a n cap] 57))
      all_goals (try (go_wp2_with fail))
      refine hK.out _ _ (by exact ⟨cell_ext HE5.out hHeld.1, cell_ext HE5.out hHeld.2⟩) (fun hHeld => ?_)
      clear hK K
      try simp only [Act.put, List.setIfInBounds_toArray, List.set_cons_zero, List.set_cons_succ]
      refine text_call (by rfl) (by rfl) (fun K hK => ?_)
      go_simp
      go_at_call 81
      refine (only81 _ _ _ 95 _ rfl 83 _ _ rfl).mono ?_
      rintro e w5 ⟨rfl, rfl⟩
      have E81 := Lib.hid (((Ext.refl (wr.alloc (.cells #[.slice a n cap] 57)).drew.drew).alloc (.cells #[.func (.func 95) #[] #[.pointer (some ⟨wr.heap.size, 0, none⟩)]] 93)).alloc (.cells #[.func (.func 83) #[.pointer (some ⟨bn, 0, none⟩)] #[]] 96))
      all_goals (try (go_wp2_with fail))
      refine hK.out _ _ (by exact ⟨cell_ext E81.out hHeld.1, cell_ext E81.out hHeld.2⟩) (fun hHeld => ?_)
      clear hK K
      try simp only [Act.put, List.setIfInBounds_toArray, List.set_cons_zero, List.set_cons_succ]
      refine text_done ?_
      generalize hW10 : (((wr.alloc (.cells #[.slice a n cap] 57)).alloc (.cells #[.func (.func 95) #[] #[.pointer (some ⟨wr.heap.size, 0, none⟩)]] 93)).alloc (.cells #[.func (.func 83) #[.pointer (some ⟨bn, 0, none⟩)] #[]] 96)).drew.drew = W10
      have HX := Lib.hid (show Ext wr W10 from by rw [← hW10]; exact ((((Ext.refl wr).alloc _).alloc _).alloc _).drew.drew)
      have hz10 : W10.heap.size = wr.heap.size + 1 + 1 + 1 := by rw [← hW10]; simp
      have B57 := Lib.hid (show Boxed W10 wr.heap.size 57 (.slice a n cap) from by
        rw [← hW10]
        exact boxed_later (Boxed.new wr 57 _) ((((Ext.refl _).alloc _).alloc _).drew.drew))
      have B93 := Lib.hid (show Boxed W10 (wr.heap.size + 1) 93 (.func (.func 95) #[] #[.pointer (some ⟨wr.heap.size, 0, none⟩)]) from by
        rw [← hW10]
        have := Boxed.new (wr.alloc (.cells #[.slice a n cap] 57)) 93 (.func (.func 95) #[] #[.pointer (some ⟨wr.heap.size, 0, none⟩)])
        rw [World.size_alloc] at this
        exact boxed_later this (((Ext.refl _).alloc _).drew.drew))
      have B96 := Lib.hid (show Boxed W10 (wr.heap.size + 1 + 1) 96 (.func (.func 83) #[.pointer (some ⟨bn, 0, none⟩)] #[]) from by
        rw [← hW10]
        have := Boxed.new ((wr.alloc (.cells #[.slice a n cap] 57)).alloc (.cells #[.func (.func 95) #[] #[.pointer (some ⟨wr.heap.size, 0, none⟩)]] 93)) 96 (.func (.func 83) #[.pointer (some ⟨bn, 0, none⟩)] #[])
        rw [World.size_alloc, World.size_alloc] at this
        exact boxed_later this ((Ext.refl _).drew.drew))
      clear hW10 hHeld HE5 E81 dn db d1 dm dr
      have HBR2 := Lib.hid (boxed_later hBRR.out HX.out); have HO2 := Lib.hid (HO.out.ext HX.out); have HNB2 := Lib.hid (HNB.out.ext HX.out); have HKX := Lib.hid (hKP.out.trans (Keep.ext HX.out))
      have HSEQ := Lib.hid (only94mT 11 (wr.heap.size + 1) (wr.heap.size + 1 + 1) n 95 83 wc.heap.size 23 (by decide) (· < n) _ ⟨bn, 0, none⟩ [w2.heap.size] (fun q => !risF res.1 q) _ W10 (by omega) B93.out B96.out (enters_of Try.func95 (by kernel_rfl) rfl) (enters_of Try.func83 (by kernel_rfl) rfl) (by simp; omega) (by simp; omega) (by simp; omega)
        (logs95T 10 wr.heap.size n n cap a [w2.heap.size] wc.heap.size 23 W10 (by omega) (Nat.le_refl _) (by omega) B57.out)
        (fun X x hX => stays83 X bn (.slice a n cap) mf res.1 res.2 x.val (HNB2.out.same (hX.low HNB2.out.lt (by simp; omega) (by omega))) (by have := x.property; omega)))
      obtain ⟨i0, hi0, hz0, hz1, hz2⟩ : ∃ i, Try.prog.info? 23 = some i ∧ i.zero = some (.slice none 0 0) ∧ i.size = 1 ∧ i.bytes = 24 := by
        obtain ⟨i, hi⟩ : ∃ i, Try.prog.info? 23 = some i := Option.isSome_iff_exists.1 (by kernel_rfl)
        have : (Try.prog.info? 23).map (fun i => (i.zero, i.size, i.bytes)) = some (some (.slice none 0 0), 1, 24) := by kernel_rfl
        rw [hi] at this
        simp at this
        exact ⟨i, hi, this.1, this.2.1, this.2.2⟩
      have HI0 := Lib.hid hi0; have HI1 := Lib.hid hz0; have HI2 := Lib.hid hz1; have HI3 := Lib.hid hz2
      clear hi0 hz0 hz1 hz2
      go_wp2
      refine wpIn_wide.1 (wp_seqT1 (n := 12) (by omega) (gf := 94) (encs := encF fun q => q < n ∧ (!risF res.1 q) = true) (ps := #[44]) (rs := [w2.heap.size]) (b := wc.heap.size) (e := 23) rfl (enters_of Try.func94 (by kernel_rfl) rfl) HSEQ.out (Below.refl _ _) (fun _ => rfl) (by simp; omega)
        (fun pre X => ∃ u hs', X.heap[w2.heap.size]? = some (.cells #[u] 40 (0, 0)) ∧ OwnH wc.heap.size X u (k + (vF pre).length) hs' (rowsL bs (vF pre)) ∧ KeepT [w2.heap.size] wc.heap.size 23 W10 X) ?hI ?h0 ?af ?assign ?body ?done)
      case hI =>
        rintro s A B row ⟨u, hs', h1, h2, h3⟩ hg hr
        exact ⟨u, hs', cells_turn h1 hg hr, h2.turn hg hr, ownFrom_keepT (β := Unit) (Nat.le_refl _) (by simp; omega) () A B row h3 hg hr⟩
      case h0 => exact ⟨_, hs, HBR2.out, HO2.out, KeepT.refl _ _ _ _⟩
      case assign =>
        rintro l2 x X K hK
        dsimp only [encF]
        gi_wp2
        exact hK
      case body =>
        rintro l2 pre x X hl2 ⟨u, hs', h1, h2, h3⟩ hlt3
        obtain ⟨x, hx⟩ := x
        repeat (rename_i q; clear q)
        have hrl : rowsL bs (vF pre ++ [x]) (k + (vF pre).length) = [x] := by rw [← HBL.out]; exact rowsL_last
        have hpl : (vF pre).length ≤ 5000 := by rw [vF_len]; omega
        have hK5 : k ≤ 5000 := by omega
        have h2' : OwnH wc.heap.size X u (k + (vF pre).length) hs' (rowsL bs (vF pre ++ [x])) := h2.congr (fun i hi => rowsL_snoc (by rw [HBL.out]; exact hi))
        obtain ⟨ys, hys⟩ : ∃ ys, ys = vF pre ++ [x] := ⟨_, rfl⟩
        have hyl : ys.length = (vF pre).length + 1 := by rw [hys]; simp
        have HV := Lib.hid (show vF (pre ++ [⟨x, hx⟩]) = ys from by rw [hys, vF_snoc])
        rw [← hys] at hrl h2'
        obtain ⟨m, hm⟩ : ∃ m, m = k + (vF pre).length := ⟨_, rfl⟩
        rw [← hm] at hrl h2'
        have HM2 := Lib.hid (show k + ys.length = m + 1 from by omega)
        have hm5 : m ≤ 10000 := by omega
        have cu := cell_of_blk h1 (o := 0) rfl
        obtain ⟨au, capu, rfl⟩ := h2'.shape
        have hE1 : Ext X (X.alloc (.cells #[.int .i64 (x : Int)] 3)) := (Ext.refl X).alloc _
        have hEa := hE1.alloc (.cells #[.slice (some ⟨X.heap.size, 0, none⟩) 1 1] 23)
        have HOA := Lib.hid (h2'.ext hEa)
        have hszX := h3.size
        have HOI := Lib.hid ((((oneI X (x : Int)).ext ((Ext.refl _).alloc (.cells #[.slice (some ⟨X.heap.size, 0, none⟩) 1 1] 23))).weakB (C := wc.heap.size) (by omega)))
        have HBA := Lib.hid (block_ext hEa h1)
        have HNB := Lib.hid (own_from HOA.out.own)
        have HK := Lib.hid h3; have HEA := Lib.hid hEa; have HRL := Lib.hid hrl
        clear h1 h2 h2' h3 hE1 hEa hys hm hrl
        gi_wp2_with (gi_at_builtin; refine wpListIn_append_own _ rfl _ _ 40 rfl wc.heap.size 23 i0 (.slice none 0 0) 1 24 Try.underlying40 HI0.out HI1.out HI2.out HI3.out rfl (by decide) (.slice au m capu) m hs' rfl HOA.out.own ⟨X.heap.size + 1, 0, none⟩ 1 1 [.slice (some ⟨X.heap.size, 0, none⟩) 1 1] rfl rfl (fun j u hj => by
          match j, hj with
          | 0, hj => simp at hj; subst hj; rw [addr_add, World.cell?_alloc_at _ _ _ _ (by simp)]; rfl) (fun u hu => by simp at hu; subst hu; rfl) (by unfold maxLen; omega) (by omega) (by simp; omega) ?_; intro v7 w7 r1 r2 _; obtain ⟨a7, cap7, rfl⟩ := own_shape r1; have b7 := (r2.block w2.heap.size (lt_of_blk HBA.out) (fun e => by have := HNB.out _ e.symm; omega)).trans HBA.out; have c7 := cell_of_blk b7 (o := 0) rfl; have f7 := frozen_of_blk b7 0)
        have hkA : KeepT [w2.heap.size] wc.heap.size 23 ((X.alloc (.cells #[.int .i64 (x : Int)] 3)).alloc (.cells #[.slice (some ⟨X.heap.size, 0, none⟩) 1 1] 23)) w7 := KeepT.own HOA.out.own r2 HNB.out
        have hkS : KeepT [w2.heap.size] wc.heap.size 23 w7 (w7.setCell ⟨w2.heap.size, 0, none⟩ (.slice a7 (m + 1) cap7)) := KeepT.set w7 (by simp) _
        have hkX := ((KeepT.ext HEA.out).trans hkA).trans hkS
        refine ⟨hkX, _, boxed_set b7 _, ⟨hs' ++ [.slice (some ⟨X.heap.size, 0, none⟩) 1 1], ?_⟩, HK.out.trans hkX⟩
        rw [HV.out, HM2.out]
        exact OwnH.grown (b := w2.heap.size) (HOA.out.push r1 r2 (by rw [HRL.out]; exact HOI.out)) (grown_set _ _ _ _) (by omega)
      case done =>
        rintro D ys X hD hS ⟨u, hs', h1, h2, h3⟩ hDW
        have hRN : runsM n (fa res.1) = bs ++ (vF ys).map fun i => [i] := by rw [HRUNS.out, hS]
        have hB : Below w2.heap.size wc X := ((HKX.out.belowB (B := w2.heap.size) (by omega) (by simp))).trans (h3.belowB (B := w2.heap.size) (by omega) (by simp) (by omega))
        have HKW := Lib.hid (HK.out.belowC hB (by omega))
        have HF := Lib.hid (show OwnH wc.heap.size X u (runsM n (fa res.1)).length hs' (fun i => (runsM n (fa res.1)).getD i []) from by
          rw [hRN]
          have : (bs ++ (vF ys).map fun i => [i]).length = k + (vF ys).length := by simp [HBL.out]
          rw [this]
          exact h2)
        have cf := cell_of_blk h1 (o := 0) rfl
        have HDW := Lib.hid hDW
        clear h1 h2 h3 hDW hS hRN hB
        have hlD : wr.heap.size + 3 ≤ D := by omega
        have hlw : w.heap.size ≤ wc.heap.size := by omega
        go_wp2
        refine ⟨by simp, .inl ⟨_, _, rfl, run_takeDeferred HDW.out, ?_⟩⟩
        refine ⟨u, by simp [results, Try.results63, go_sem], u, hs', rfl, ?_, ?_⟩
        · exact (HF.out.weakB hlw).putNot HDW.out rfl
        · exact HKW.out.putObj (by omega) (by simp; omega) _
end Go.Proofs.Ytclcippfodjfeaa
