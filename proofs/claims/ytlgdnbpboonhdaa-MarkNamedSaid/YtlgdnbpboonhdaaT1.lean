/- told, by its contract. -/
import Derived.Test.YtlgdnbpboonhdaaN2
import Derived.Test.YtlgdnbpboonhdaaK2
import Derived.Deep.RegionHeld3
namespace Go.Proofs.Ytlgdnbpboonhdaa
open Go.RowKit Go.Shelf Go.Maps
set_option linter.unusedVariables false
set_option linter.unusedSimpArgs false
attribute [local go_sem] Oper.semAt_some
theorem region_noPanic {F : Fence} {n : Nat} {P : Program} {id : Nat} {ops : Array Oper} {b : Bool} {Q : Exit → Act → World → Prop} {a : Act} {w : World} (h : (Code.region id ops b).wpIn F n P (NoPanic Q) a w) : (Code.region id ops b).wpIn F n P Q a w :=
  Code.wpIn_mono NoPanic.imp h
theorem not97 (i k Bo : Nat) (W : World) (hc : W.cell? ⟨Bo, 0, none⟩ = some (.int .i64 (k : Int))) :
    Calls Try.prog 97 (#[.int .i64 (i : Int)] ++ #[.pointer (some ⟨Bo, 0, none⟩)]) W fun e w' => e = .returned (.bool (i != k)) ∧ w' = W := by
  simp only [List.append_toArray, List.cons_append, List.nil_append]
  go_enter Try.func97, Try.ntmps97
  go_wp2
  go_ret
  refine ⟨ret_bool ?_, rfl⟩
  rw [Bool.eq_iff_iff]; simp; omega
theorem any76_calls (i : Nat) (W : World) : Calls Try.prog 76 (#[.int .i64 (i : Int)] ++ #[]) W fun e w' => e = .returned (.bool true) ∧ w' = W := by
  simp only [List.append_toArray, List.cons_append, List.nil_append]
  go_enter Try.func76, Try.ntmps76
  go_wp2
  go_ret
  exact ⟨rfl, rfl⟩
/-- After how many losses an owner is told. -/
def toldTo (m L : Nat) (T : Nat → Bool) (ws : List Nat) : Int := ws.foldl (fun t x => if T x then min t ((pc (dif m x) : Int) - 1) else t) (L : Int)
theorem toldTo_snoc (m L : Nat) (T : Nat → Bool) (ws : List Nat) (x : Nat) : toldTo m L T (ws ++ [x]) = if T x then min (toldTo m L T ws) ((pc (dif m x) : Int) - 1) else toldTo m L T ws := by
  simp [toldTo, List.foldl_append]
set_option maxRecDepth 100000 in
set_option maxHeartbeats 8000000 in
theorem told70 (b S L bt i : Nat) (ms : List Nat) (v : Value) (T : Nat → Bool) (w : World) (hv : Valid S L ms) (hr : RegT w b S L bt v ms T) (hi : i < ms.length) :
    Calls Try.prog 70 #[.pointer (some ⟨b, 0, none⟩), .int .i64 (i : Int)] w fun e w' => e = .returned (.int .i64 (toldTo (mAt ms i) L (noteTo ms L (fun k => k != i) ms.length) (wornL (mAt ms i) L))) ∧ w.grownBy w' (some bt) := by
  refine (callsIn_wide (n := 10)).1 ?_
  obtain ⟨hl, a, cap, rfl⟩ := hr.1.2.shape
  have HV := Lib.hid hv
  have E0 : Ext w ((w.alloc (.cells #[.pointer (some ⟨b, 0, none⟩)] 63)).alloc (.cells #[.int .i64 (i : Int)] 3)) := ((Ext.refl w).alloc _).alloc _
  have hr1 := hr.ext E0
  have hci := Boxed.new (w.alloc (.cells #[.pointer (some ⟨b, 0, none⟩)] 63)) 3 (.int .i64 (i : Int))
  have hcr := (Boxed.new w 63 (.pointer (some ⟨b, 0, none⟩))).alloc (.cells #[.int .i64 (i : Int)] 3)
  rw [World.size_alloc] at hci
  have HN := Lib.hid (note75 b S L bt ms _ T 97 #[.pointer (some ⟨w.heap.size + 1, 0, none⟩)] (fun k => k != i) _ hv hr1 (enters_of Try.func97 (by kernel_rfl) rfl) (fun k X _ hk => not97 k i _ X (hk _ _ _ (fun t e => by cases e) hci.cell)))
  have HB := Lib.hid (And.intro hci hcr)
  have HR := Lib.hid hr1
  have HE := Lib.hid E0
  have hbt := hr.lt
  have hmi : ms[i]? = some (mAt ms i) := by simp [mAt, hi]
  clear hv hr hr1 hci hcr E0
  refine callsIn_of_wp_marks Try.func70 rfl trivial ?_ rfl
  simp only [Try.ntmps70, List.size_toArray, List.length_cons, List.length_nil, Nat.reduceAdd, Nat.reduceSub, Array.replicate_succ, Array.replicate_zero, List.push_toArray, List.append_toArray, List.nil_append, List.cons_append]
  gi_wp2_with fail
  refine ⟨trivial, (callsIn_wide.2 HN.out).mono ?_⟩
  rintro e w2 ⟨rfl, hR2, hG2⟩
  have hk2 := KeepsCells.turned HR.out.2.2 hG2
  have c2 := hk2 _ _ _ (fun t e => by cases e) HB.out.2.cell
  have c3 := hk2 _ _ _ (fun t e => by cases e) HB.out.1.cell
  have c21 := hR2.1.1.2.1
  have c22 := hR2.1.1.2.2
  obtain ⟨b1, off, rfl, hl2, hcy⟩ := hR2.1.2.atN hmi
  rw [ints_length] at *
  have HR2 := Lib.hid hR2; have HG2 := Lib.hid (Lib.grownBy_trans (grown_ext HE.out (some bt)) hG2)
  have hka : (0 : Int) ≤ (i : Int) := by omega
  have hkb : (i : Int) < (ms.length : Int) := by omega
  have hsz2 : w.heap.size + 1 < w2.heap.size := by have := hG2.size; simp at this; omega
  clear hR2 hG2 hk2 HN
  have hmix : Try.prog.follows .mixedOrders = true := by kernel_rfl
  gi_wp2
  refine wpIn_region_any hmix ?_
  refine wpAnyIn_inv2 (fun listed A X => ∃ (l0 l1 l2 l3 l4 l5 l6 l7 l8 l9 l10 l11 l12 l13 l14 l15 l16 : Bool) (p5 p6 : Nat), listed = #[l0, l1, l2, l3, l4, l5, l6, l7, l8, l9, l10, l11, l12, l13, l14, l15, l16] ∧ A = { tmps := #[.pointer (some ⟨b, 0, none⟩), .int .i64 (i : Int), .pointer (some ⟨w.heap.size, 0, none⟩), .pointer (some ⟨w.heap.size + 1, 0, none⟩), .int .i64 0, cond l13 (.pointer (some ⟨p5, 0, none⟩)) undef, cond l14 (.pointer (some ⟨p6, 0, none⟩)) undef, undef, .pointer (some ⟨b, 0, none⟩), .func (.func 97) #[] #[.pointer (some ⟨w.heap.size + 1, 0, none⟩)], .tuple #[], cond l0 (.pointer (some ⟨b, 0, none⟩)) undef, cond l1 (.pointer (some ⟨b, 0, none⟩)) undef, cond l2 (.pointer (some ⟨b, 0, none⟩)) undef, cond l3 (.pointer (some ⟨b, 2, none⟩)) undef, cond l4 (.slice (some ⟨b1, off, none⟩) ms.length cap) undef, cond l5 (.int .i64 (i : Int)) undef, cond l6 (.pointer (some ⟨b1, off + i, none⟩)) undef, cond l7 (.int .i64 (mAt ms i : Int)) undef, cond l8 (.pointer (some ⟨b, 0, none⟩)) undef, cond l9 (.pointer (some ⟨b, 0, none⟩)) undef, cond l10 (.pointer (some ⟨b, 0, none⟩)) undef, cond l11 (.pointer (some ⟨b, 1, none⟩)) undef, cond l12 (.int .i64 (L : Int)) undef, undef, undef, undef, undef, undef, undef, undef, undef, undef, undef, undef, undef, undef, undef, undef, undef, undef, undef, undef, undef, undef, undef, undef], defers := [] } ∧ Ext w2 X ∧ (l15 = true → l13 = true) ∧ (l16 = true → l14 = true) ∧
      (l13 = true → w2.heap.size ≤ p5 ∧ Boxed X p5 3 (.int .i64 (if l15 then (mAt ms i : Int) else 0))) ∧ (l14 = true → w2.heap.size ≤ p6 ∧ Boxed X p6 3 (.int .i64 (if l16 then (L : Int) else 0))) ∧ (l13 = true → l14 = true → p5 ≠ p6)) (by decide +kernel) ?hsize ?hstep ?hdone _ _ _ _ (by decide +kernel) ⟨false, false, false, false, false, false, false, false, false, false, false, false, false, false, false, false, false, 0, 0, rfl, rfl, Ext.drew (Ext.refl _), by simp, by simp, by simp, by simp, by simp⟩
  case hsize => rintro listed A X ⟨l0, l1, l2, l3, l4, l5, l6, l7, l8, l9, l10, l11, l12, l13, l14, l15, l16, p5, p6, rfl, -⟩; rfl
  case hstep =>
    rintro listed A X x oi ⟨l0, l1, l2, l3, l4, l5, l6, l7, l8, l9, l10, l11, l12, l13, l14, l15, l16, p5, p6, rfl, rfl, hE, h15, h16, h5, h6, h56⟩ hx hnl haft K hK
    match x, hx with
    | 0, hx =>
      simp at hx; subst hx
      obtain rfl : l0 = false := Option.some.inj hnl
      have e1 := cell_ext hE c2
      refine wpOpIn_step rfl fun K' hK' => ?_
      go_simp
      exact hK' _ _ (hK _ _ ⟨true, l1, l2, l3, l4, l5, l6, l7, l8, l9, l10, l11, l12, l13, l14, l15, l16, p5, p6, rfl, rfl, hE, h15, h16, h5, h6, h56⟩)
    | 1, hx =>
      simp at hx; subst hx
      obtain rfl : l1 = false := Option.some.inj hnl
      obtain rfl : l0 = true := Option.some.inj (haft { on := 0, ground := .data } (by simp) rfl)
      refine wpOpIn_step rfl fun K' hK' => ?_
      go_simp
      exact hK' _ _ (hK _ _ ⟨true, true, l2, l3, l4, l5, l6, l7, l8, l9, l10, l11, l12, l13, l14, l15, l16, p5, p6, rfl, rfl, hE, h15, h16, h5, h6, h56⟩)
    | 2, hx =>
      simp at hx; subst hx
      obtain rfl : l2 = false := Option.some.inj hnl
      obtain rfl : l1 = true := Option.some.inj (haft { on := 1, ground := .data } (by simp) rfl)
      refine wpOpIn_step rfl fun K' hK' => ?_
      go_simp
      exact hK' _ _ (hK _ _ ⟨l0, true, true, l3, l4, l5, l6, l7, l8, l9, l10, l11, l12, l13, l14, l15, l16, p5, p6, rfl, rfl, hE, h15, h16, h5, h6, h56⟩)
    | 3, hx =>
      simp at hx; subst hx
      obtain rfl : l3 = false := Option.some.inj hnl
      obtain rfl : l2 = true := Option.some.inj (haft { on := 2, ground := .data } (by simp) rfl)
      refine wpOpIn_step rfl fun K' hK' => ?_
      go_simp
      exact hK' _ _ (hK _ _ ⟨l0, l1, true, true, l4, l5, l6, l7, l8, l9, l10, l11, l12, l13, l14, l15, l16, p5, p6, rfl, rfl, hE, h15, h16, h5, h6, h56⟩)
    | 4, hx =>
      simp at hx; subst hx
      obtain rfl : l4 = false := Option.some.inj hnl
      obtain rfl : l3 = true := Option.some.inj (haft { on := 3, ground := .data } (by simp) rfl)
      have e1 := cell_ext hE c22
      refine wpOpIn_step rfl fun K' hK' => ?_
      go_simp
      exact hK' _ _ (hK _ _ ⟨l0, l1, l2, true, true, l5, l6, l7, l8, l9, l10, l11, l12, l13, l14, l15, l16, p5, p6, rfl, rfl, hE, h15, h16, h5, h6, h56⟩)
    | 5, hx =>
      simp at hx; subst hx
      obtain rfl : l5 = false := Option.some.inj hnl
      have e1 := cell_ext hE c3
      refine wpOpIn_step rfl fun K' hK' => ?_
      go_simp
      exact hK' _ _ (hK _ _ ⟨l0, l1, l2, l3, l4, true, l6, l7, l8, l9, l10, l11, l12, l13, l14, l15, l16, p5, p6, rfl, rfl, hE, h15, h16, h5, h6, h56⟩)
    | 6, hx =>
      simp at hx; subst hx
      obtain rfl : l6 = false := Option.some.inj hnl
      obtain rfl : l4 = true := Option.some.inj (haft { on := 4, ground := .data } (by simp) rfl)
      obtain rfl : l5 = true := Option.some.inj (haft { on := 5, ground := .data } (by simp) rfl)
      refine wpOpIn_step rfl fun K' hK' => ?_
      go_simp
      exact hK' _ _ (hK _ _ ⟨l0, l1, l2, l3, true, true, true, l7, l8, l9, l10, l11, l12, l13, l14, l15, l16, p5, p6, rfl, rfl, hE, h15, h16, h5, h6, h56⟩)
    | 7, hx =>
      simp at hx; subst hx
      obtain rfl : l7 = false := Option.some.inj hnl
      obtain rfl : l6 = true := Option.some.inj (haft { on := 6, ground := .data } (by simp) rfl)
      have e1 := cell_ext hE hcy
      refine wpOpIn_step rfl fun K' hK' => ?_
      go_simp
      exact hK' _ _ (hK _ _ ⟨l0, l1, l2, l3, l4, l5, true, true, l8, l9, l10, l11, l12, l13, l14, l15, l16, p5, p6, rfl, rfl, hE, h15, h16, h5, h6, h56⟩)
    | 8, hx =>
      simp at hx; subst hx
      obtain rfl : l8 = false := Option.some.inj hnl
      have e1 := cell_ext hE c2
      refine wpOpIn_step rfl fun K' hK' => ?_
      go_simp
      exact hK' _ _ (hK _ _ ⟨l0, l1, l2, l3, l4, l5, l6, l7, true, l9, l10, l11, l12, l13, l14, l15, l16, p5, p6, rfl, rfl, hE, h15, h16, h5, h6, h56⟩)
    | 9, hx =>
      simp at hx; subst hx
      obtain rfl : l9 = false := Option.some.inj hnl
      obtain rfl : l8 = true := Option.some.inj (haft { on := 8, ground := .data } (by simp) rfl)
      refine wpOpIn_step rfl fun K' hK' => ?_
      go_simp
      exact hK' _ _ (hK _ _ ⟨l0, l1, l2, l3, l4, l5, l6, l7, true, true, l10, l11, l12, l13, l14, l15, l16, p5, p6, rfl, rfl, hE, h15, h16, h5, h6, h56⟩)
    | 10, hx =>
      simp at hx; subst hx
      obtain rfl : l10 = false := Option.some.inj hnl
      obtain rfl : l9 = true := Option.some.inj (haft { on := 9, ground := .data } (by simp) rfl)
      refine wpOpIn_step rfl fun K' hK' => ?_
      go_simp
      exact hK' _ _ (hK _ _ ⟨l0, l1, l2, l3, l4, l5, l6, l7, l8, true, true, l11, l12, l13, l14, l15, l16, p5, p6, rfl, rfl, hE, h15, h16, h5, h6, h56⟩)
    | 11, hx =>
      simp at hx; subst hx
      obtain rfl : l11 = false := Option.some.inj hnl
      obtain rfl : l10 = true := Option.some.inj (haft { on := 10, ground := .data } (by simp) rfl)
      refine wpOpIn_step rfl fun K' hK' => ?_
      go_simp
      exact hK' _ _ (hK _ _ ⟨l0, l1, l2, l3, l4, l5, l6, l7, l8, l9, true, true, l12, l13, l14, l15, l16, p5, p6, rfl, rfl, hE, h15, h16, h5, h6, h56⟩)
    | 12, hx =>
      simp at hx; subst hx
      obtain rfl : l12 = false := Option.some.inj hnl
      obtain rfl : l11 = true := Option.some.inj (haft { on := 11, ground := .data } (by simp) rfl)
      have e1 := cell_ext hE c21
      refine wpOpIn_step rfl fun K' hK' => ?_
      go_simp
      exact hK' _ _ (hK _ _ ⟨l0, l1, l2, l3, l4, l5, l6, l7, l8, l9, l10, true, true, l13, l14, l15, l16, p5, p6, rfl, rfl, hE, h15, h16, h5, h6, h56⟩)
    | 13, hx =>
      simp at hx; subst hx
      obtain rfl : l13 = false := Option.some.inj hnl
      obtain rfl : l15 = false := by cases l15 with
        | false => rfl
        | true => exact absurd (h15 rfl) (by simp)
      refine wpOpIn_step rfl fun K' hK' => ?_
      go_simp
      refine hK' _ _ (hK _ _ ⟨l0, l1, l2, l3, l4, l5, l6, l7, l8, l9, l10, l11, l12, true, l14, false, l16, X.heap.size, p6, rfl, rfl, hE.alloc _, by simp, h16, fun _ => ⟨hE.size, Boxed.new _ _ _⟩, fun h => ⟨(h6 h).1, (h6 h).2.alloc _⟩, fun _ h e => ?_⟩)
      have := (h6 h).2.lt
      omega
    | 14, hx =>
      simp at hx; subst hx
      obtain rfl : l14 = false := Option.some.inj hnl
      obtain rfl : l16 = false := by cases l16 with
        | false => rfl
        | true => exact absurd (h16 rfl) (by simp)
      refine wpOpIn_step rfl fun K' hK' => ?_
      go_simp
      refine hK' _ _ (hK _ _ ⟨l0, l1, l2, l3, l4, l5, l6, l7, l8, l9, l10, l11, l12, l13, true, l15, false, p5, X.heap.size, rfl, rfl, hE.alloc _, h15, by simp, fun h => ⟨(h5 h).1, (h5 h).2.alloc _⟩, fun _ => ⟨hE.size, Boxed.new _ _ _⟩, fun h _ e => ?_⟩)
      have := (h5 h).2.lt
      omega
    | 15, hx =>
      simp at hx; subst hx
      obtain rfl : l15 = false := Option.some.inj hnl
      obtain rfl : l13 = true := Option.some.inj (haft { on := 13, ground := .data } (by simp) rfl)
      obtain rfl : l7 = true := Option.some.inj (haft { on := 7, ground := .data } (by simp) rfl)
      obtain ⟨g5, k5⟩ := h5 rfl
      have e1 := k5.cell
      have e2 := k5.frozen
      refine wpOpIn_step rfl fun K' hK' => ?_
      go_simp
      refine hK' _ _ (hK _ _ ⟨l0, l1, l2, l3, l4, l5, l6, true, l8, l9, l10, l11, l12, true, l14, true, l16, p5, p6, rfl, rfl, hE.setCell (p := ⟨p5, 0, none⟩) g5 _, by simp, h16, fun _ => ⟨g5, k5.set _⟩, fun h => ⟨(h6 h).1, (h6 h).2.other (Ne.symm (h56 rfl h)) _⟩, h56⟩)
    | 16, hx =>
      simp at hx; subst hx
      obtain rfl : l16 = false := Option.some.inj hnl
      obtain rfl : l14 = true := Option.some.inj (haft { on := 14, ground := .data } (by simp) rfl)
      obtain rfl : l12 = true := Option.some.inj (haft { on := 12, ground := .data } (by simp) rfl)
      obtain ⟨g6, k6⟩ := h6 rfl
      have e1 := k6.cell
      have e2 := k6.frozen
      refine wpOpIn_step rfl fun K' hK' => ?_
      go_simp
      refine hK' _ _ (hK _ _ ⟨l0, l1, l2, l3, l4, l5, l6, l7, l8, l9, l10, l11, true, l13, true, l15, true, p5, p6, rfl, rfl, hE.setCell (p := ⟨p6, 0, none⟩) g6 _, h15, by simp, fun h => ⟨(h5 h).1, (h5 h).2.other (h56 h rfl) _⟩, fun _ => ⟨g6, k6.set _⟩, h56⟩)
    | n + 17, hx => simp at hx
  case hdone =>
    rintro listed A X ⟨l0, l1, l2, l3, l4, l5, l6, l7, l8, l9, l10, l11, l12, l13, l14, l15, l16, p5, p6, rfl, rfl, hE, h15, h16, h5, h6, h56⟩ hall
    simp [Array.replicate] at hall
    obtain ⟨rfl, rfl, rfl, rfl, rfl, rfl, rfl, rfl, rfl, rfl, rfl, rfl, rfl, rfl, rfl, rfl, rfl⟩ := hall
    obtain ⟨g5, k5⟩ := h5 rfl
    obtain ⟨g6, k6⟩ := h6 rfl
    have hne := h56 rfl rfl
    have hm1024 : mAt ms i < 1024 := HV.out.lt hmi
    have hmfull := HV.out.mlt hmi
    simp only [if_true] at k5 k6
    have K5 := Lib.hid k5; have K6 := Lib.hid k6
    have C2 := Lib.hid c2
    have d5 := k5.cell
    have d2 := cell_ext hE c2
    have dL := cell_ext hE c21
    have HW := Lib.hid (worn98 (mAt ms i) L)
    have hX : w2.heap.size ≤ X.heap.size := hE.size
    have HEX := Lib.hid hE
    clear h15 h16 h5 h6 h56 k5 k6 c2 c3 c21 c22 hcy hE
    dsimp only [cond]
    gi_wp2
    rename_i K1 aK1
    have hcont : ∀ w3, Ext X w3 → Boxed w3 X.heap.size 3 (.int .i64 (mAt ms i : Int)) → Boxed w3 (X.heap.size + 1) 3 (.int .i64 (L : Int)) → K1 { tmps := #[.pointer (some ⟨b, 0, none⟩), .int .i64 (i : Int), .pointer (some ⟨w.heap.size, 0, none⟩), .pointer (some ⟨w.heap.size + 1, 0, none⟩), .int .i64 0, .pointer (some ⟨p5, 0, none⟩), .pointer (some ⟨p6, 0, none⟩), undef, .pointer (some ⟨b, 0, none⟩), .func (.func 97) #[] #[.pointer (some ⟨w.heap.size + 1, 0, none⟩)], .tuple #[], .pointer (some ⟨b, 0, none⟩), .pointer (some ⟨b, 0, none⟩), .pointer (some ⟨b, 0, none⟩), .pointer (some ⟨b, 2, none⟩), .slice (some ⟨b1, off, none⟩) ms.length cap, .int .i64 (i : Int), .pointer (some ⟨b1, off + i, none⟩), .int .i64 (mAt ms i : Int), .pointer (some ⟨b, 0, none⟩), .pointer (some ⟨b, 0, none⟩), .pointer (some ⟨b, 0, none⟩), .pointer (some ⟨b, 1, none⟩), .int .i64 (L : Int), .int .i64 (mAt ms i : Int), .pointer (some ⟨b, 0, none⟩), .pointer (some ⟨b, 0, none⟩), .pointer (some ⟨b, 0, none⟩), .pointer (some ⟨b, 1, none⟩), .int .i64 (L : Int), .func (.func 107) #[] #[.pointer (some ⟨X.heap.size, 0, none⟩), .pointer (some ⟨X.heap.size + 1, 0, none⟩)], undef, undef, undef, undef, undef, undef, undef, undef, undef, undef, undef, undef, undef, undef, undef, undef], defers := [] } w3 := by
      intro w3 hE3 bM bL
      apply aK1
      dsimp only
      gi_wp2
      have hE2 : Ext w2 w3 := Ext.trans HEX.out hE3
      have B5 : Boxed w3 p5 3 (.int .i64 (mAt ms i : Int)) := block_ext hE3 K5.out
      have B6 : Boxed w3 p6 3 (.int .i64 (L : Int)) := block_ext hE3 K6.out
      have hb6 := B6.lt
      have hb5 := B5.lt
      have hbM := bM.lt
      have hbL := bL.lt
      refine wpIn_rangeFunc_ownH rfl (by omega) (gf := 107) (lb := #[.pointer (some ⟨X.heap.size, 0, none⟩), .pointer (some ⟨X.heap.size + 1, 0, none⟩)]) rfl trivial (enters_of Try.func107 (by kernel_rfl) rfl)
        (worn_stops 9 X.heap.size (X.heap.size + 1) 0 (mAt ms i) L hm1024 (by omega) w3 bM.cell bL.cell) Kp2.trans (kp2_b (by omega) (by simp; omega)) (Below.refl _ _) (fun _ => rfl)
        (fun pre W => (Boxed W p6 3 (.int .i64 (toldTo (mAt ms i) L (noteTo ms L (fun k => k != i) ms.length) (vals (mAt ms i) pre))) ∧ Boxed W p5 3 (.int .i64 (mAt ms i : Int))) ∧ Below w2.heap.size w2 W)
        (fun _ _ _ => False)
        ?hI (fun _ _ _ _ _ h _ _ => h) ⟨⟨B6, B5⟩, hE2⟩
        (fun x a' W => a' = { tmps := #[.pointer (some ⟨b, 0, none⟩), .int .i64 (i : Int), .pointer (some ⟨w.heap.size, 0, none⟩), .pointer (some ⟨w.heap.size + 1, 0, none⟩), .int .i64 0, .pointer (some ⟨p5, 0, none⟩), .pointer (some ⟨p6, 0, none⟩), .int .i64 (x.1 : Int), .pointer (some ⟨b, 0, none⟩), .func (.func 97) #[] #[.pointer (some ⟨w.heap.size + 1, 0, none⟩)], .tuple #[], .pointer (some ⟨b, 0, none⟩), .pointer (some ⟨b, 0, none⟩), .pointer (some ⟨b, 0, none⟩), .pointer (some ⟨b, 2, none⟩), .slice (some ⟨b1, off, none⟩) ms.length cap, .int .i64 (i : Int), .pointer (some ⟨b1, off + i, none⟩), .int .i64 (mAt ms i : Int), .pointer (some ⟨b, 0, none⟩), .pointer (some ⟨b, 0, none⟩), .pointer (some ⟨b, 0, none⟩), .pointer (some ⟨b, 1, none⟩), .int .i64 (L : Int), .int .i64 (mAt ms i : Int), .pointer (some ⟨b, 0, none⟩), .pointer (some ⟨b, 0, none⟩), .pointer (some ⟨b, 0, none⟩), .pointer (some ⟨b, 1, none⟩), .int .i64 (L : Int), .func (.func 107) #[] #[.pointer (some ⟨X.heap.size, 0, none⟩), .pointer (some ⟨X.heap.size + 1, 0, none⟩)], .int .i64 (x.1 : Int), undef, undef, undef, undef, undef, undef, undef, undef, undef, undef, undef, undef, undef, undef, undef], defers := [] })
        ?hAx ?assign ?body ?done ?stop
      case hI => exact OwnFrom.and (fun s A B row hs hg hr => ⟨boxed_turn hs.1 hg hr, boxed_turn hs.2 hg hr⟩) (ownFrom_below (Nat.le_refl _) hE2.size)
      case hAx => exact fun x a' s A B row hs hg hr => hs
      case assign =>
        rintro l pre x W K hI hK
        dsimp only [encS]
        gi_wp2
        exact hK _ _ (KeepsFrom.refl _ _) (Kp2.refl _ _ _) hI rfl
      case body =>
        rintro l pre x A W hl ⟨r, hrl⟩ ⟨⟨q6, q5⟩, hB⟩ rfl hlt2
        obtain ⟨x, hx⟩ := x
        have hxf : x ≤ full S := by have := sub_le _ _ hx; omega
        have hxs : x < 1024 := by have := sub_le _ _ hx; omega
        have hka2 : (0 : Int) ≤ (x : Int) := by omega
        have hkb2 : (x : Int) < ((full S + 1 : Nat) : Int) := by omega
        have hRW := HR2.out.ext hB
        have d2 := cell_ext hB C2.out
        have d3 := hRW.2.1
        have dx := hRW.2.2.cell (i := x) (by omega)
        obtain ⟨tv, htv⟩ : ∃ tv, tv = noteTo ms L (fun k => k != i) ms.length x := ⟨_, rfl⟩
        rw [← htv] at dx
        have htl := toldTo_snoc (mAt ms i) L (noteTo ms L (fun k => k != i) ms.length) (vals (mAt ms i) pre) x
        rw [← htv] at htl
        have HTL := Lib.hid htl
        obtain ⟨tc, htc⟩ : ∃ tc, tc = toldTo (mAt ms i) L (noteTo ms L (fun k => k != i) ms.length) (vals (mAt ms i) pre) := ⟨_, rfl⟩
        rw [← htc] at q6 HTL
        have d6 := q6.cell
        have f6 := q6.frozen
        have d5 := q5.cell
        have HB' := Lib.hid hB; have Q5 := Lib.hid q5; have Q6 := Lib.hid q6; have HRL := Lib.hid hrl
        clear htv htl htc hB q5 q6 hrl hRW
        dsimp only
        cases tv with
        | false =>
          gi_wp2
          refine ⟨KeepsFrom.refl _ _, Kp2.refl _ _ _, ⟨⟨?_, Q5.out⟩, HB'.out⟩⟩
          rw [vals_snoc]
          show Boxed _ _ _ (.int .i64 (toldTo _ _ _ _))
          rw [HTL.out]
          exact Q6.out
        | true =>
          obtain ⟨c, hc⟩ : ∃ c, c = pc (dif (mAt ms i) x) := ⟨_, rfl⟩
          have hc10 : c ≤ 10 := by rw [hc]; exact pc_le _
          have H89 := fun Y => count_any (dif (mAt ms i) x) (dif_lt (mAt ms i) x hm1024) Y
          rw [← hc] at HTL H89
          have HC := Lib.hid hc
          clear hc
          have hdn := andNot_nat (mAt ms i) x hm1024 hxs
          have hwr : IntKind.i64.wrap ((c : Int) - 1) = (c : Int) - 1 := wrapi64_int _ (by omega) (by omega)
          gi_wp2
          refine wpIn_region_any hmix ?_
          refine wpAnyIn_inv2 (fun listed A Y => ∃ l0 l1 l2 l3 l4 l5 l6 l7 : Bool, listed = #[l0, l1, l2, l3, l4, l5, l6, l7] ∧ A = { tmps := #[.pointer (some ⟨b, 0, none⟩), .int .i64 (i : Int), .pointer (some ⟨w.heap.size, 0, none⟩), .pointer (some ⟨w.heap.size + 1, 0, none⟩), .int .i64 0, .pointer (some ⟨p5, 0, none⟩), .pointer (some ⟨p6, 0, none⟩), .int .i64 (x : Int), .pointer (some ⟨b, 0, none⟩), .func (.func 97) #[] #[.pointer (some ⟨w.heap.size + 1, 0, none⟩)], .tuple #[], .pointer (some ⟨b, 0, none⟩), .pointer (some ⟨b, 0, none⟩), .pointer (some ⟨b, 0, none⟩), .pointer (some ⟨b, 2, none⟩), .slice (some ⟨b1, off, none⟩) ms.length cap, .int .i64 (i : Int), .pointer (some ⟨b1, off + i, none⟩), .int .i64 (mAt ms i : Int), .pointer (some ⟨b, 0, none⟩), .pointer (some ⟨b, 0, none⟩), .pointer (some ⟨b, 0, none⟩), .pointer (some ⟨b, 1, none⟩), .int .i64 (L : Int), .int .i64 (mAt ms i : Int), .pointer (some ⟨b, 0, none⟩), .pointer (some ⟨b, 0, none⟩), .pointer (some ⟨b, 0, none⟩), .pointer (some ⟨b, 1, none⟩), .int .i64 (L : Int), .func (.func 107) #[] #[.pointer (some ⟨X.heap.size, 0, none⟩), .pointer (some ⟨X.heap.size + 1, 0, none⟩)], .int .i64 (x : Int), .pointer (some ⟨b, 0, none⟩), .pointer (some ⟨b, 0, none⟩), .pointer (some ⟨b, 3, none⟩), .slice (some ⟨bt, 0, none⟩) (full S + 1) (full S + 1), .int .i64 (x : Int), .pointer (some ⟨bt, x, none⟩), .bool true, cond l0 (.int .i64 tc) undef, cond l1 (.int .i64 (mAt ms i : Int)) undef, cond l2 (.int .i64 (x : Int)) undef, cond l3 (.int .i64 (dif (mAt ms i) x : Int)) undef, cond l4 (.int .i64 (c : Int)) undef, cond l5 (.int .i64 ((c : Int) - 1)) undef, cond l6 (.int .i64 (if (c : Int) - 1 < tc then (c : Int) - 1 else tc)) undef, undef], defers := [] } ∧ ((l7 = true → l6 = true) ∧ (l7 = true → l0 = true)) ∧ Y = cond l7 ((W.setCell ⟨p6, 0, none⟩ (.int .i64 (if (c : Int) - 1 < tc then (c : Int) - 1 else tc))).drew) W.drew) (by decide +kernel) ?hsize ?hstep ?hdone _ _ _ _ (by decide +kernel) ⟨false, false, false, false, false, false, false, false, rfl, rfl, ⟨by simp, by simp⟩, rfl⟩
          case hsize => rintro listed A Y ⟨l0, l1, l2, l3, l4, l5, l6, l7, rfl, -⟩; rfl
          case hstep =>
            rintro listed A Y z oi ⟨l0, l1, l2, l3, l4, l5, l6, l7, rfl, rfl, h7, rfl⟩ hz hnl haft K hK
            match z, hz with
            | 0, hz =>
              simp at hz; subst hz
              obtain rfl : l0 = false := Option.some.inj hnl
              cases l7 with
              | false =>
                have e1 : W.drew.cell? ⟨p6, 0, none⟩ = _ := d6
                simp only [cond_true, cond_false] at hK ⊢
                refine wpOpIn_step rfl fun K' hK' => ?_
                go_simp
                exact hK' _ _ (hK _ _ ⟨true, l1, l2, l3, l4, l5, l6, false, rfl, rfl, ⟨by simp, by simp⟩, rfl⟩)
              | true => exact absurd (h7.2 rfl) (by simp)
            | 1, hz =>
              simp at hz; subst hz
              obtain rfl : l1 = false := Option.some.inj hnl
              cases l7 with
              | false =>
                have e1 : W.drew.cell? ⟨p5, 0, none⟩ = _ := d5
                simp only [cond_true, cond_false] at hK ⊢
                refine wpOpIn_step rfl fun K' hK' => ?_
                go_simp
                exact hK' _ _ (hK _ _ ⟨l0, true, l2, l3, l4, l5, l6, false, rfl, rfl, ⟨by simp, by simp⟩, rfl⟩)
              | true =>
                obtain rfl : l6 = true := h7.1 rfl
                obtain rfl : l0 = true := h7.2 rfl
                have e1 : ((W.setCell ⟨p6, 0, none⟩ (.int .i64 (if (c : Int) - 1 < tc then (c : Int) - 1 else tc))).drew).cell? ⟨p5, 0, none⟩ = _ := ((Q5.out.other hne _ : Boxed _ _ _ _)).cell
                simp only [cond_true, cond_false] at hK ⊢
                refine wpOpIn_step rfl fun K' hK' => ?_
                go_simp
                exact hK' _ _ (hK _ _ ⟨true, true, l2, l3, l4, l5, true, true, rfl, rfl, ⟨by simp, by simp⟩, rfl⟩)
            | 2, hz =>
              simp at hz; subst hz
              obtain rfl : l2 = false := Option.some.inj hnl
              cases l7 with
              | false =>
                simp only [cond_true, cond_false] at hK ⊢
                refine wpOpIn_step rfl fun K' hK' => ?_
                go_simp
                exact hK' _ _ (hK _ _ ⟨l0, l1, true, l3, l4, l5, l6, false, rfl, rfl, ⟨by simp, by simp⟩, rfl⟩)
              | true =>
                obtain rfl : l6 = true := h7.1 rfl
                obtain rfl : l0 = true := h7.2 rfl
                simp only [cond_true, cond_false] at hK ⊢
                refine wpOpIn_step rfl fun K' hK' => ?_
                go_simp
                exact hK' _ _ (hK _ _ ⟨true, l1, true, l3, l4, l5, true, true, rfl, rfl, ⟨by simp, by simp⟩, rfl⟩)
            | 3, hz =>
              simp at hz; subst hz
              obtain rfl : l3 = false := Option.some.inj hnl
              obtain rfl : l1 = true := Option.some.inj (haft { on := 1, ground := .data } (by simp) rfl)
              obtain rfl : l2 = true := Option.some.inj (haft { on := 2, ground := .data } (by simp) rfl)
              cases l7 with
              | false =>
                simp only [cond_true, cond_false] at hK ⊢
                refine wpOpIn_step rfl fun K' hK' => ?_
                go_simp
                exact hK' _ _ (hK _ _ ⟨l0, true, true, true, l4, l5, l6, false, rfl, rfl, ⟨by simp, by simp⟩, rfl⟩)
              | true =>
                obtain rfl : l6 = true := h7.1 rfl
                obtain rfl : l0 = true := h7.2 rfl
                simp only [cond_true, cond_false] at hK ⊢
                refine wpOpIn_step rfl fun K' hK' => ?_
                go_simp
                exact hK' _ _ (hK _ _ ⟨true, true, true, true, l4, l5, true, true, rfl, rfl, ⟨by simp, by simp⟩, rfl⟩)
            | 4, hz =>
              simp at hz; subst hz
              obtain rfl : l4 = false := Option.some.inj hnl
              obtain rfl : l3 = true := Option.some.inj (haft { on := 3, ground := .data } (by simp) rfl)
              cases l7 with
              | false =>
                simp only [cond_true, cond_false] at hK ⊢
                refine wpOpIn_step rfl fun K' hK' => ?_
                go_simp
                refine ⟨trivial, ?_⟩
                gi_at_call 89
                refine (CallsIn.inRound l (callsIn_wide.2 (H89 _))).mono ?_
                rintro e w6 ⟨rfl, rfl⟩
                exact hK' _ _ (hK _ _ ⟨l0, l1, l2, true, true, l5, l6, false, rfl, rfl, ⟨by simp, by simp⟩, rfl⟩)
              | true =>
                obtain rfl : l6 = true := h7.1 rfl
                obtain rfl : l0 = true := h7.2 rfl
                simp only [cond_true, cond_false] at hK ⊢
                refine wpOpIn_step rfl fun K' hK' => ?_
                go_simp
                refine ⟨trivial, ?_⟩
                gi_at_call 89
                refine (CallsIn.inRound l (callsIn_wide.2 (H89 _))).mono ?_
                rintro e w6 ⟨rfl, rfl⟩
                exact hK' _ _ (hK _ _ ⟨true, l1, l2, true, true, l5, true, true, rfl, rfl, ⟨by simp, by simp⟩, rfl⟩)
            | 5, hz =>
              simp at hz; subst hz
              obtain rfl : l5 = false := Option.some.inj hnl
              obtain rfl : l4 = true := Option.some.inj (haft { on := 4, ground := .data } (by simp) rfl)
              cases l7 with
              | false =>
                simp only [cond_true, cond_false] at hK ⊢
                refine wpOpIn_step rfl fun K' hK' => ?_
                go_simp
                exact hK' _ _ (hK _ _ ⟨l0, l1, l2, l3, true, true, l6, false, rfl, rfl, ⟨by simp, by simp⟩, rfl⟩)
              | true =>
                obtain rfl : l6 = true := h7.1 rfl
                obtain rfl : l0 = true := h7.2 rfl
                simp only [cond_true, cond_false] at hK ⊢
                refine wpOpIn_step rfl fun K' hK' => ?_
                go_simp
                exact hK' _ _ (hK _ _ ⟨true, l1, l2, l3, true, true, true, true, rfl, rfl, ⟨by simp, by simp⟩, rfl⟩)
            | 6, hz =>
              simp at hz; subst hz
              obtain rfl : l6 = false := Option.some.inj hnl
              obtain rfl : l7 = false := by cases l7 with
                | false => rfl
                | true => exact absurd (h7.1 rfl) (by simp)
              obtain rfl : l0 = true := Option.some.inj (haft { on := 0, ground := .data } (by simp) rfl)
              obtain rfl : l5 = true := Option.some.inj (haft { on := 5, ground := .data } (by simp) rfl)
              simp only [cond_true, cond_false] at hK ⊢
              refine wpOpIn_step rfl fun K' hK' => ?_
              go_simp
              exact hK' _ _ (hK _ _ ⟨true, l1, l2, l3, l4, true, true, false, rfl, rfl, ⟨by simp, by simp⟩, rfl⟩)
            | 7, hz =>
              simp at hz; subst hz
              obtain rfl : l7 = false := Option.some.inj hnl
              obtain rfl : l6 = true := Option.some.inj (haft { on := 6, ground := .data } (by simp) rfl)
              obtain rfl : l0 = true := Option.some.inj (haft { on := 0, ground := .phase } (by simp) rfl)
              have e1 : W.drew.cell? ⟨p6, 0, none⟩ = _ := d6
              have e2 : W.drew.frozen? ⟨p6, 0, none⟩ = _ := f6
              simp only [cond_true, cond_false] at hK ⊢
              refine wpOpIn_step rfl fun K' hK' => ?_
              go_simp
              exact hK' _ _ (hK _ _ ⟨true, l1, l2, l3, l4, l5, true, true, rfl, rfl, ⟨by simp, by simp⟩, rfl⟩)
            | n + 8, hz => simp at hz
          case hdone =>
            rintro listed A Y ⟨l0, l1, l2, l3, l4, l5, l6, l7, rfl, rfl, h7, rfl⟩ hall
            simp [Array.replicate] at hall
            obtain ⟨rfl, rfl, rfl, rfl, rfl, rfl, rfl, rfl⟩ := hall
            simp only [cond_true]
            have hval : toldTo (mAt ms i) L (noteTo ms L (fun k => k != i) ms.length) (vals (mAt ms i) (pre ++ [⟨x, hx⟩])) = if (c : Int) - 1 < tc then (c : Int) - 1 else tc := by
              rw [vals_snoc]
              show toldTo _ _ _ _ = _
              rw [HTL.out]
              simp only [if_true]
              split <;> omega
            have HVAL := Lib.hid hval
            clear hval
            by_cases hlt3 : (c : Int) - 1 < tc
            all_goals
              simp only [hlt3, if_true, if_false]
              gi_wp2
              refine ⟨((KeepsOthers.setCell _ _ _).trans (KeepsOthers.drew _)).from _, ⟨((Below.refl 0 W).setCell (p := ⟨p6, 0, none⟩) (Nat.zero_le _) _).drew, ?_⟩, ⟨⟨?_, (Q5.out.other hne _ : Boxed _ _ _ _)⟩, (HB'.out.setCell (p := ⟨p6, 0, none⟩) g6 _).drew⟩⟩
              · intro r hr
                refine set_other ?_
                have := K6.out.lt
                simp at hr; omega
              · rw [HVAL.out]
                first | rw [if_pos (by omega)] | rw [if_neg (by omega)]
                exact (Q6.out.set _ : Boxed _ _ _ _)
      case done =>
        rintro D ys W hD hS ⟨⟨q6, q5⟩, hB⟩ hK
        rw [show vals (mAt ms i) ys = wornL (mAt ms i) L from hS] at q6
        obtain ⟨tc, htc⟩ : ∃ tc, tc = toldTo (mAt ms i) L (noteTo ms L (fun k => k != i) ms.length) (wornL (mAt ms i) L) := ⟨_, rfl⟩
        rw [← htc] at q6
        have d6 := q6.cell
        have HTC := Lib.hid htc; have HK := Lib.hid hK; have HBW := Lib.hid hB
        clear htc hK hB q5 q6 hS
        gi_wp2
        refine ⟨by simp, .inl ⟨_, _, rfl, run_takeDeferred HK.out, ?_⟩⟩
        refine ⟨_, results_tmp rfl _ _ _, by rw [HTC.out]; rfl, ?_⟩
        have h2 := HBW.out.trans (belowK_b (w := w2) (Nat.le_refl _) _ D _ (.deferred none) (by omega) HK.out rfl rfl)
        exact Lib.grownBy_trans HG2.out (grown_ext h2 (some bt))
      case stop =>
        rintro D c pre W _ _ h _
        exact h.elim
    refine region_noPanic ?_
    gi_region_with_o (first | (refine ⟨trivial, ?_⟩; gi_at_call 98; refine (callsIn_wide.2 (HW.out _)).mono ?_; rintro e w3 ⟨rfl, h3⟩))
    all_goals
      refine hcont _ ?_ ?_ ?_
      · exact (((Ext.refl X).alloc _).alloc _).drew
      · exact (Boxed.new X 3 (.int .i64 (mAt ms i : Int))).alloc _
      · have := Boxed.new (X.alloc (.cells #[.int .i64 (mAt ms i : Int)] 3)) 3 (.int .i64 (L : Int))
        rwa [World.size_alloc] at this
end Go.Proofs.Ytlgdnbpboonhdaa
