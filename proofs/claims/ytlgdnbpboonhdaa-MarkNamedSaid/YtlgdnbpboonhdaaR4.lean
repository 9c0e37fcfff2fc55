/- The pairs that clash, as a map. -/
import Derived.Test.YtlgdnbpboonhdaaK2
namespace Go.Proofs.Ytlgdnbpboonhdaa
open Go.RowKit Go.Shelf Go.Maps
set_option linter.unusedVariables false
attribute [local go_sem] Oper.semAt_some
def clB (ms : List Nat) (L : Nat) (p : Nat × Nat) : Bool := decide (max (dA ms p) (dB ms p) ≤ L)
def shA (ms : List Nat) (p : Nat × Nat) : Nat := mAt ms p.1 &&& mAt ms p.2
def clF (ms : List Nat) (L : Nat) (ps : List (Nat × Nat)) (q : Nat × Nat) : Option Nat := if q ∈ ps ∧ clB ms L q = true then some (shA ms q) else none
theorem clF_no (ms : List Nat) (L : Nat) (ps : List (Nat × Nat)) (p : Nat × Nat) (h : clB ms L p = false) : clF ms L (ps ++ [p]) = clF ms L ps := by
  funext q
  unfold clF
  by_cases e : q = p
  · subst e; simp [h]
  · simp [e]
theorem clF_yes (ms : List Nat) (L : Nat) (ps : List (Nat × Nat)) (p : Nat × Nat) (h : clB ms L p = true) : clF ms L (ps ++ [p]) = fun q => if q = p then some (shA ms p) else clF ms L ps q := by
  funext q
  unfold clF
  by_cases e : q = p
  · subst e; simp [h]
  · simp [e]
theorem pairsL_small (n : Nat) (h : n ≤ 12) : (pairsL n).length ≤ 66 := by
  have : ∀ n, n < 13 → (pairsL n).length ≤ 66 := by decide
  exact this n (by omega)
theorem clF_nil (ms : List Nat) (L : Nat) : clF ms L [] = fun _ => none := by funext q; simp [clF]
set_option maxRecDepth 100000 in
set_option maxHeartbeats 8000000 in
theorem clashing62 (b S L : Nat) (ms : List Nat) (v : Value) (w : World) (hv : Valid S L ms) (hr : RegAt w b S L v ms) :
    Calls Try.prog 62 #[.pointer (some ⟨b, 0, none⟩)] w fun e w' => ∃ B, e = .returned (.map (some B)) ∧ w.heap.size ≤ B ∧ ClMap w' B 200 (clF ms L (pairsL ms.length)) ∧ Ext w w' := by
  refine (callsIn_wide (n := 10)).1 ?_
  have HR := Lib.hid hr
  obtain ⟨⟨h1, h2, h3⟩, hvv⟩ := hr
  have HV := Lib.hid hv
  have hbl := lt_of_cell h1
  clear hv hvv h1
  have hmm := @run_makeMap Try.prog
  refine callsIn_of_wp_marks Try.func62 rfl trivial ?_ rfl
  simp only [Try.ntmps62, List.size_toArray, List.length_cons, List.length_nil, Nat.reduceAdd, Nat.reduceSub, Array.replicate_succ, Array.replicate_zero, List.push_toArray, List.append_toArray, List.nil_append, List.cons_append]
  gi_wp2_with (refine ⟨trivial, ?_⟩; gi_at_call 90; refine (callsIn_wide.2 (pairs90 b _)).mono ?_; rintro e w' ⟨rfl, rfl⟩)
  have hml := HV.out.2.2.2.1
  have b0 := (((Boxed.new w 63 (.pointer (some ⟨b, 0, none⟩))).alloc (.map #[] 0)).alloc (.cells #[.map (some (w.heap.size + 1))] 73)).alloc (.cells #[.pointer (some ⟨b, 0, none⟩)] 63)
  have b1 := (((ClMap.made (w.alloc (.cells #[.pointer (some ⟨b, 0, none⟩)] 63))).ext ((Ext.refl _).alloc (.cells #[.map (some (w.heap.size + 1))] 73))).ext ((Ext.refl _).alloc (.cells #[.pointer (some ⟨b, 0, none⟩)] 63)))
  have b2 := (Boxed.new ((w.alloc (.cells #[.pointer (some ⟨b, 0, none⟩)] 63)).alloc (.map #[] 0)) 73 (.map (some (w.heap.size + 1)))).alloc (.cells #[.pointer (some ⟨b, 0, none⟩)] 63)
  have b3 := Boxed.new (((w.alloc (.cells #[.pointer (some ⟨b, 0, none⟩)] 63)).alloc (.map #[] 0)).alloc (.cells #[.map (some (w.heap.size + 1))] 73)) 63 (.pointer (some ⟨b, 0, none⟩))
  have hB0 : Below w.heap.size w ((((w.alloc (.cells #[.pointer (some ⟨b, 0, none⟩)] 63)).alloc (.map #[] 0)).alloc (.cells #[.map (some (w.heap.size + 1))] 73)).alloc (.cells #[.pointer (some ⟨b, 0, none⟩)] 63)) := ((((Ext.refl w).alloc _).alloc _).alloc _).alloc _
  have hsz : ((((w.alloc (.cells #[.pointer (some ⟨b, 0, none⟩)] 63)).alloc (.map #[] 0)).alloc (.cells #[.map (some (w.heap.size + 1))] 73)).alloc (.cells #[.pointer (some ⟨b, 0, none⟩)] 63)).heap.size = w.heap.size + 4 := by simp
  simp only [World.size_alloc] at b1 b2 b3
  obtain ⟨W0, hW0⟩ : ∃ W0, (((w.alloc (.cells #[.pointer (some ⟨b, 0, none⟩)] 63)).alloc (.map #[] 0)).alloc (.cells #[.map (some (w.heap.size + 1))] 73)).alloc (.cells #[.pointer (some ⟨b, 0, none⟩)] 63) = W0 := ⟨_, rfl⟩
  rw [hW0] at b0 b1 b2 b3 hB0 hsz ⊢
  clear hW0 hmm
  obtain ⟨hl, a, cap, rfl⟩ := HR.out.2.shape
  refine wpIn_rangeFunc_ownH rfl (by omega) (gf := 105) (lb := #[.pointer (some ⟨w.heap.size + 1 + 1 + 1, 0, none⟩)]) rfl trivial (enters_of Try.func105 (by kernel_rfl) rfl)
    (pairs_stops 9 (w.heap.size + 1 + 1 + 1) b w.heap.size ms.length cap a hml (by omega) W0 b3.cell ((hB0.cell (p := ⟨b, 2, none⟩) hbl).trans (by rw [h3, ints_length])) hbl hB0.size) Kp2.trans (kp2_b (by omega) (by simp; omega)) (Below.refl _ _) (fun _ => rfl)
    (fun pre W => (ClMap W (w.heap.size + 1) pre.length (clF ms L (pvals _ pre)) ∧ Boxed W (w.heap.size + 1 + 1) 73 (.map (some (w.heap.size + 1))) ∧ Boxed W w.heap.size 63 (.pointer (some ⟨b, 0, none⟩)) ∧ Boxed W (w.heap.size + 1 + 1 + 1) 63 (.pointer (some ⟨b, 0, none⟩))) ∧ Below w.heap.size w W)
    (fun _ _ _ => False)
    ?hI (fun _ _ _ _ _ h _ _ => h) ⟨⟨by rw [show pvals ms.length [] = [] from rfl, clF_nil]; exact b1, b2, b0, b3⟩, hB0⟩
    (fun x a' W => ∃ Bx, W0.heap.size ≤ Bx ∧ W.heap[Bx]? = some (.cells #[.int .i64 (x.1.1 : Int), .int .i64 (x.1.2 : Int)] 76 (0, 0)) ∧ a' = { tmps := #[.pointer (some ⟨b, 0, none⟩), .pointer (some ⟨w.heap.size, 0, none⟩), .map none, .pointer (some ⟨w.heap.size + 1 + 1, 0, none⟩), .pointer (some ⟨Bx, 0, none⟩), undef, .map (some (w.heap.size + 1)), .pointer (some ⟨b, 0, none⟩), .func (.func 105) #[] #[.pointer (some ⟨w.heap.size + 1 + 1 + 1, 0, none⟩)], .agg #[.int .i64 (x.1.1 : Int), .int .i64 (x.1.2 : Int)], undef, undef, undef, undef, undef, undef, undef, undef, undef, undef, undef, undef, undef, undef, undef, undef, undef], defers := [] })
    ?hAx ?assign ?body ?done ?stop
  case hI => exact OwnFrom.and (fun s A B row hs hg hr => ⟨hs.1.block (hg.block _ hs.1.lt (fun e => by have := (hr _ e.symm).1; omega)), boxed_turn hs.2.1 hg hr, boxed_turn hs.2.2.1 hg hr, boxed_turn hs.2.2.2 hg hr⟩) (ownFrom_below (Nat.le_refl _) hB0.size)
  case hAx => exact fun x a' s A B row hs hg hr => let ⟨Bx, h1, h2, h3⟩ := hs; ⟨Bx, h1, cells_turn h2 hg hr, h3⟩
  case assign =>
    rintro l pre x W K ⟨⟨q1, q2, q0, q3⟩, hB⟩ hK
    dsimp only [encP]
    gi_wp2
    have h3l := q3.lt
    exact hK _ _ ((KeepsOthers.alloc _ _).from _) ⟨(Below.refl _ W).alloc hB.size _, fun r hr => Below.heap_alloc _ _ _ (by simp at hr; omega)⟩ ⟨⟨q1.ext ((Ext.refl _).alloc _), q2.alloc _, q0.alloc _, q3.alloc _⟩, hB.alloc hB.size _⟩ ⟨W.heap.size, by omega, heap_alloc_new _ _, rfl⟩
  case body =>
    rintro l pre x a' W hl ⟨r, hrl⟩ ⟨⟨q1, q2, q0, q3⟩, hB⟩ ⟨Bx, hBx, bX, rfl⟩ hlt
    obtain ⟨⟨i, k⟩, hik, hk⟩ := x
    dsimp only at hik hk bX ⊢
    have hi : i < ms.length := by omega
    have hmi : ms[i]? = some (mAt ms i) := by simp [mAt, hi]
    have hmk : ms[k]? = some (mAt ms k) := by simp [mAt, hk]
    have H91 := Lib.hid (lost91 b S L i k (mAt ms i) (mAt ms k) ms _ W (HR.out.ext hB) hmi hmk (HV.out.lt hmi) (HV.out.lt hmk) hml)
    have H93 : ∀ X, Ext W X → Calls Try.prog 93 #[.pointer (some ⟨b, 0, none⟩), .agg #[.int .i64 (i : Int), .int .i64 (k : Int)]] X fun e w' => e = .returned (.int .i64 ((shA ms (i, k) : Nat) : Int)) ∧ Ext X w' := fun X hX =>
      shared93 b S L i k (mAt ms i) (mAt ms k) ms _ X ((HR.out.ext hB).ext hX) hmi hmk (HV.out.lt hmi) (HV.out.lt hmk)
    have hsh : shA ms (i, k) < 1024 := Nat.lt_of_le_of_lt Nat.and_le_left (HV.out.lt hmi)
    have c0 := q0.cell
    have cX0 : W.cell? ⟨Bx, 0, none⟩ = some (.int .i64 (i : Int)) := by rw [cell_of_row _ _ _ _ _ _ bX]; rfl
    have cX1 : W.cell? ⟨Bx, 1, none⟩ = some (.int .i64 (k : Int)) := by rw [cell_of_row _ _ _ _ _ _ bX]; rfl
    have hik12 : i < 12 ∧ k < 12 ∧ i ≠ k := by omega
    have hmax := max_lost i k (dA ms (i, k) : Int) (dB ms (i, k) : Int) hik12.1 hik12.2.1 hik12.2.2 (by omega) (by omega)
    rw [lostA, show ((pc (dif (mAt ms i) (mAt ms i &&& mAt ms k)) : Nat) : Int) = (dA ms (i, k) : Int) from rfl, show ((pc (dif (mAt ms k) (mAt ms i &&& mAt ms k)) : Nat) : Int) = (dB ms (i, k) : Int) from rfl] at H91
    obtain ⟨xs, hxs⟩ : ∃ xs, xs = lostL i k (dA ms (i, k) : Int) (dB ms (i, k) : Int) := ⟨_, rfl⟩
    have hlen := lostL_length i k (dA ms (i, k) : Int) (dB ms (i, k) : Int)
    rw [← hxs] at H91 hmax hlen
    obtain ⟨mx, hmx⟩ : ∃ mx : Nat, mx = max (dA ms (i, k)) (dB ms (i, k)) := ⟨_, rfl⟩
    rw [show max (dA ms (i, k) : Int) (dB ms (i, k) : Int) = (mx : Int) by omega] at hmax
    have hcl : clB ms L (i, k) = decide (mx ≤ L) := by rw [hmx]; rfl
    have HCL := Lib.hid hcl
    clear hxs hmi hmk hmx hcl
    obtain ⟨a0, a1, a2, a3, a4, a5, a6, a7, a8, a9, a10, a11, rfl⟩ := ex12 xs hlen
    have HMAX := Lib.hid (hmax a0 [a1, a2, a3, a4, a5, a6, a7, a8, a9, a10, a11] rfl)
    have HRD : Hid (∀ X : World, Reads (X.alloc (.cells #[.int .i64 a0, .int .i64 a1, .int .i64 a2, .int .i64 a3, .int .i64 a4, .int .i64 a5, .int .i64 a6, .int .i64 a7, .int .i64 a8, .int .i64 a9, .int .i64 a10, .int .i64 a11] 102)) (.slice (some ⟨X.heap.size, 0, none⟩) 12 12) [a0, a1, a2, a3, a4, a5, a6, a7, a8, a9, a10, a11]) := fun X =>
      Reads.new X _ 102 _ rfl (by simp) _ rfl 12 12 rfl
    simp only [List.map_cons, List.map_nil] at H91
    clear hmax hlen
    have hmix : Try.prog.follows .mixedOrders = true := by kernel_rfl
    have HS := Lib.hid hsh; have H93' := Lib.hid H93
    have Q0 := Lib.hid q0; have Q1 := Lib.hid q1; have Q2 := Lib.hid q2; have Q3 := Lib.hid q3; have HE := Lib.hid hB; have BX := Lib.hid bX; have HRL := Lib.hid hrl
    have HBL := Lib.hid (HR.out.ext hB).1.2.1
    clear hsh H93 q0 q1 q2 q3 hB bX hrl h3
    gi_wp2_with fail
    refine ⟨trivial, (CallsIn.inRound l (callsIn_wide.2 H91.out)).mono ?_⟩
    rintro e w' ⟨rfl, hb⟩
    clear c0 cX0 cX1
    have hA := (Ext.refl w').alloc (.cells #[.int .i64 a0, .int .i64 a1, .int .i64 a2, .int .i64 a3, .int .i64 a4, .int .i64 a5, .int .i64 a6, .int .i64 a7, .int .i64 a8, .int .i64 a9, .int .i64 a10, .int .i64 a11] 102)
    have hWA := Ext.trans hb hA
    have p0 : Boxed _ _ _ _ := block_ext hWA Q0.out
    have p2 : Boxed _ _ _ _ := block_ext hWA Q2.out
    have p3 : Boxed _ _ _ _ := block_ext hWA Q3.out
    have c0 := p0.cell
    have c2 := p2.cell
    have cL := cell_ext hWA HBL.out
    have bX := block_ext hWA BX.out
    have cX0 : (w'.alloc (.cells #[.int .i64 a0, .int .i64 a1, .int .i64 a2, .int .i64 a3, .int .i64 a4, .int .i64 a5, .int .i64 a6, .int .i64 a7, .int .i64 a8, .int .i64 a9, .int .i64 a10, .int .i64 a11] 102)).cell? ⟨Bx, 0, none⟩ = some (.int .i64 (i : Int)) := by rw [cell_of_row _ _ _ _ _ _ bX]; rfl
    have cX1 : (w'.alloc (.cells #[.int .i64 a0, .int .i64 a1, .int .i64 a2, .int .i64 a3, .int .i64 a4, .int .i64 a5, .int .i64 a6, .int .i64 a7, .int .i64 a8, .int .i64 a9, .int .i64 a10, .int .i64 a11] 102)).cell? ⟨Bx, 1, none⟩ = some (.int .i64 (k : Int)) := by rw [cell_of_row _ _ _ _ _ _ bX]; rfl
    have H92 : ∀ X : World, Ext (w'.alloc (.cells #[.int .i64 a0, .int .i64 a1, .int .i64 a2, .int .i64 a3, .int .i64 a4, .int .i64 a5, .int .i64 a6, .int .i64 a7, .int .i64 a8, .int .i64 a9, .int .i64 a10, .int .i64 a11] 102)) X → Calls Try.prog 92 #[.slice (some ⟨w'.heap.size, 0, none⟩) 12 12] X fun e w'' => e = .returned (.int .i64 (mx : Int)) ∧ X = w'' := fun X hX => by
      have := max92_any _ a0 [a1, a2, a3, a4, a5, a6, a7, a8, a9, a10, a11] X ((HRD.out w').ext hX)
      rw [HMAX.out] at this
      exact this
    have H92' := Lib.hid H92
    have HWA := Lib.hid hWA; have P0 := Lib.hid p0; have P2 := Lib.hid p2; have P3 := Lib.hid p3
    clear H92 hA hWA p0 p2 p3 bX hb HRD HMAX H91
    have hN : w'.heap.size = w'.heap.size := rfl
    by_cases hle : mx ≤ L
    · have HCB : Hid (clB ms L (i, k) = true) := Lib.hid (by rw [HCL.out]; simpa using hle)
      gi_wp2
      rename_i K1 aK1
      have hcont : K1 { tmps := #[.pointer (some ⟨b, 0, none⟩), .pointer (some ⟨w.heap.size, 0, none⟩), .map none, .pointer (some ⟨w.heap.size + 1 + 1, 0, none⟩), .pointer (some ⟨Bx, 0, none⟩), .pointer (some ⟨w'.heap.size, 0, none⟩), .map (some (w.heap.size + 1)), .pointer (some ⟨b, 0, none⟩), .func (.func 105) #[] #[.pointer (some ⟨w.heap.size + 1 + 1 + 1, 0, none⟩)], .agg #[.int .i64 (i : Int), .int .i64 (k : Int)], .pointer (some ⟨b, 0, none⟩), .agg #[.int .i64 (i : Int), .int .i64 (k : Int)], .agg #[.int .i64 a0, .int .i64 a1, .int .i64 a2, .int .i64 a3, .int .i64 a4, .int .i64 a5, .int .i64 a6, .int .i64 a7, .int .i64 a8, .int .i64 a9, .int .i64 a10, .int .i64 a11], .slice (some ⟨w'.heap.size, 0, none⟩) 12 12, .int .i64 (mx : Int), .pointer (some ⟨b, 0, none⟩), .pointer (some ⟨b, 0, none⟩), .pointer (some ⟨b, 0, none⟩), .pointer (some ⟨b, 1, none⟩), .int .i64 (L : Int), .bool true, undef, undef, undef, undef, undef, undef], defers := [] } ((w'.alloc (.cells #[.int .i64 a0, .int .i64 a1, .int .i64 a2, .int .i64 a3, .int .i64 a4, .int .i64 a5, .int .i64 a6, .int .i64 a7, .int .i64 a8, .int .i64 a9, .int .i64 a10, .int .i64 a11] 102)).drew) := by
        apply aK1
        have hms7 := fun (X : World) (hX : Ext (w'.alloc (.cells #[.int .i64 a0, .int .i64 a1, .int .i64 a2, .int .i64 a3, .int .i64 a4, .int .i64 a5, .int .i64 a6, .int .i64 a7, .int .i64 a8, .int .i64 a9, .int .i64 a10, .int .i64 a11] 102)) X) => ClMap.put (Q1.out.ext (Ext.trans HWA.out hX)) (by omega) (i, k) ⟨by show i < _; omega, by show k < _; omega⟩ (shA ms (i, k)) (by have := HS.out; omega)
        have h93 := fun (X : World) (hX : Ext (w'.alloc (.cells #[.int .i64 a0, .int .i64 a1, .int .i64 a2, .int .i64 a3, .int .i64 a4, .int .i64 a5, .int .i64 a6, .int .i64 a7, .int .i64 a8, .int .i64 a9, .int .i64 a10, .int .i64 a11] 102)) X) => H93'.out X (Ext.trans HWA.out hX)
        generalize Value.agg #[.int .i64 a0, .int .i64 a1, .int .i64 a2, .int .i64 a3, .int .i64 a4, .int .i64 a5, .int .i64 a6, .int .i64 a7, .int .i64 a8, .int .i64 a9, .int .i64 a10, .int .i64 a11] = vA
        generalize hwn : w'.heap.size = wn
        generalize (w'.alloc (.cells #[.int .i64 a0, .int .i64 a1, .int .i64 a2, .int .i64 a3, .int .i64 a4, .int .i64 a5, .int .i64 a6, .int .i64 a7, .int .i64 a8, .int .i64 a9, .int .i64 a10, .int .i64 a11] 102)) = WW at *
        dsimp only at hms7
        have HM7 := Lib.hid hms7; have H93 := Lib.hid h93
        have q3 := Q3.out.lt
        clear H92' H93' hms7 h93 hwn HCL HRL BX HBL hle hN hik12 HS b0 b1 b2 b3 hB0 cL hi HR
        have HC := Lib.hid (And.intro c2 (And.intro c0 (And.intro cX0 cX1)))
        clear c2 c0 cX0 cX1
        gi_wp2
        refine wpIn_region_any hmix ?_
        refine wpAnyIn_inv (fun f listed a W' => ∃ l0 l1 l2 l3 l4 l5 : Bool, listed = #[l0, l1, l2, l3, l4, l5] ∧ f + (l0.toNat + l1.toNat + l2.toNat + l3.toNat + l4.toNat + l5.toNat) = 6 ∧
            (l4 = true → l2 = true ∧ l3 = true) ∧ (l5 = true → l0 = true ∧ l1 = true ∧ l4 = true) ∧
            a = { tmps := #[.pointer (some ⟨b, 0, none⟩), .pointer (some ⟨w.heap.size, 0, none⟩), .map none, .pointer (some ⟨w.heap.size + 1 + 1, 0, none⟩), .pointer (some ⟨Bx, 0, none⟩), .pointer (some ⟨wn, 0, none⟩), .map (some (w.heap.size + 1)), .pointer (some ⟨b, 0, none⟩), .func (.func 105) #[] #[.pointer (some ⟨w.heap.size + 1 + 1 + 1, 0, none⟩)], .agg #[.int .i64 (i : Int), .int .i64 (k : Int)], .pointer (some ⟨b, 0, none⟩), .agg #[.int .i64 (i : Int), .int .i64 (k : Int)], vA, .slice (some ⟨wn, 0, none⟩) 12 12, .int .i64 (mx : Int), .pointer (some ⟨b, 0, none⟩), .pointer (some ⟨b, 0, none⟩), .pointer (some ⟨b, 0, none⟩), .pointer (some ⟨b, 1, none⟩), .int .i64 (L : Int), .bool true,
              cond l0 (.map (some (w.heap.size + 1))) undef, cond l1 (.agg #[.int .i64 (i : Int), .int .i64 (k : Int)]) undef, cond l2 (.pointer (some ⟨b, 0, none⟩)) undef, cond l3 (.agg #[.int .i64 (i : Int), .int .i64 (k : Int)]) undef, cond l4 (.int .i64 ((shA ms (i, k) : Nat) : Int)) undef, undef], defers := [] } ∧
            (l5 = false → Ext WW W') ∧ (l5 = true → ∃ w6, Ext WW w6 ∧ ClMap W' (w.heap.size + 1) (pre.length + 1) (fun q => if q = (i, k) then some (shA ms (i, k)) else clF ms L (pvals ms.length pre) q) ∧ w6.grownBy W' (some (w.heap.size + 1)))) ?hstep ?hend ?hzero _ _ _ _ ⟨false, false, false, false, false, false, rfl, rfl, by simp, by simp, rfl, fun _ => Ext.drew (Ext.drew (Ext.refl _)), by simp⟩
        case hend =>
          rintro f listed a W' ⟨l0, l1, l2, l3, l4, l5, rfl, hs, h4, h5, -, -, -⟩
          cases l0 <;> cases l1 <;> cases l2 <;> cases l3 <;> cases l4 <;> cases l5 <;> first | (simp at hs; done) | (simp at h4; done) | (simp at h5; done) | decide +kernel
        case hzero =>
          rintro listed a W' ⟨l0, l1, l2, l3, l4, l5, rfl, hs, h4, h5, rfl, -, h6⟩
          cases l0 <;> cases l1 <;> cases l2 <;> cases l3 <;> cases l4 <;> cases l5 <;> first | (simp at hs; done) | skip
          refine ⟨by decide +kernel, ?_⟩
          obtain ⟨w6, e6, hm6, hg6⟩ := h6 rfl
          have hWL := HE.out.size
          have hE6 := Ext.trans HWA.out e6
          have hs6 := hE6.size
          gi_wp2
          refine ⟨((ext_keeps hE6).from _).trans (KeepsFrom.of_grownBy hg6 (fun j hj => by cases hj; omega)), ⟨(hE6.mono hWL).grown hg6 (by omega) (fun j hj => by cases hj; omega), ?_⟩, ⟨⟨?_, ?_, ?_, ?_⟩, (HE.out.trans (hE6.mono hWL)).grown hg6 (by omega) (fun j hj => by cases hj; omega)⟩⟩
          · intro r hr
            simp only [List.mem_singleton] at hr
            subst hr
            exact (hg6.block _ (by have := Q3.out.lt; omega) (fun e => by have := Option.some.inj e; omega)).trans (hE6.block _ Q3.out.lt)
          · rw [pvals_snoc, clF_yes _ _ _ _ HCB.out, List.length_append]
            exact hm6
          · exact Boxed.kept (block_ext hE6 Q2.out) hg6 (fun e => by have := Option.some.inj e; omega)
          · exact Boxed.kept (block_ext hE6 Q0.out) hg6 (fun e => by have := Option.some.inj e; omega)
          · exact Boxed.kept (block_ext hE6 Q3.out) hg6 (fun e => by have := Option.some.inj e; omega)
        case hstep =>
          rintro f listed a W' x oi ⟨l0, l1, l2, l3, l4, l5, rfl, hs, h4, h5, rfl, hE, -⟩ hx hnl haft K hK
          match x, hx with
          | 0, hx =>
            simp at hnl; subst hnl
            have hl5 : l5 = false := by cases l5 <;> simp_all
            subst hl5
            obtain ⟨c2, c0, cX0, cX1⟩ := HC.out
            have e2 := cell_ext (hE rfl) c2
            refine wpOpIn_step rfl fun K' hK' => ?_
            go_simp
            exact hK' _ _ (hK _ _ ⟨true, l1, l2, l3, l4, false, rfl, by simp at hs ⊢; omega, h4, by simp, rfl, fun _ => hE rfl, by simp⟩)
          | 1, hx =>
            simp at hnl; subst hnl
            have hl5 : l5 = false := by cases l5 <;> simp_all
            subst hl5
            obtain ⟨c2, c0, cX0, cX1⟩ := HC.out
            have e2 := cell_ext (hE rfl) cX0
            have e3 := cell_ext (hE rfl) cX1
            refine wpOpIn_step rfl fun K' hK' => ?_
            go_simp
            exact hK' _ _ (hK _ _ ⟨l0, true, l2, l3, l4, false, rfl, by simp at hs ⊢; omega, h4, by simp, rfl, fun _ => hE rfl, by simp⟩)
          | 2, hx =>
            simp at hnl; subst hnl
            have hl5 : l5 = false := by cases l5 <;> simp_all
            have hl4 : l4 = false := by cases l4 <;> simp_all
            subst hl5 hl4
            obtain ⟨c2, c0, cX0, cX1⟩ := HC.out
            have e2 := cell_ext (hE rfl) c0
            refine wpOpIn_step rfl fun K' hK' => ?_
            go_simp
            exact hK' _ _ (hK _ _ ⟨l0, l1, true, l3, false, false, rfl, by simp at hs ⊢; omega, by simp, by simp, rfl, fun _ => hE rfl, by simp⟩)
          | 3, hx =>
            simp at hnl; subst hnl
            have hl5 : l5 = false := by cases l5 <;> simp_all
            have hl4 : l4 = false := by cases l4 <;> simp_all
            subst hl5 hl4
            obtain ⟨c2, c0, cX0, cX1⟩ := HC.out
            have e2 := cell_ext (hE rfl) cX0
            have e3 := cell_ext (hE rfl) cX1
            refine wpOpIn_step rfl fun K' hK' => ?_
            go_simp
            exact hK' _ _ (hK _ _ ⟨l0, l1, l2, true, false, false, rfl, by simp at hs ⊢; omega, by simp, by simp, rfl, fun _ => hE rfl, by simp⟩)
          | 4, hx =>
            simp at hnl; subst hnl
            have hl5 : l5 = false := by cases l5 <;> simp_all
            simp at hx; subst hx
            simp [Region.binds] at haft
            obtain ⟨rfl, rfl⟩ := haft
            subst hl5
            refine wpOpIn_step rfl fun K' hK' => ?_
            go_simp
            refine ⟨trivial, ?_⟩
            gi_at_call 93
            refine (CallsIn.inRound l (callsIn_wide.2 (H93.out _ (hE rfl)))).mono ?_
            rintro e w6 ⟨rfl, hb6⟩
            exact hK' _ _ (hK _ _ ⟨l0, l1, true, true, true, false, rfl, by simp at hs ⊢; omega, by simp, by simp, rfl, fun _ => Ext.trans (hE rfl) hb6, by simp⟩)
          | 5, hx =>
            simp at hnl; subst hnl
            simp at hx; subst hx
            simp [Region.binds] at haft
            have : l0 = true ∧ l1 = true ∧ l2 = true ∧ l3 = true ∧ l4 = true := by simp_all
            obtain ⟨rfl, rfl, rfl, rfl, rfl⟩ := this
            obtain ⟨w7, hrun, hmap7, hg7⟩ := HM7.out W' (hE rfl)
            refine wpOpIn_step rfl fun K' hK' => ?_
            go_simp
            exact hK' _ _ (hK _ _ ⟨true, true, true, true, true, true, rfl, by simp at hs ⊢; omega, by simp, by simp, rfl, by simp, fun _ => ⟨_, hE rfl, hmap7, hg7⟩⟩)
          | n + 6, hx => simp at hx
      gi_region_with_o (first | (refine ⟨trivial, ?_⟩; gi_at_call 92; refine (CallsIn.inRound l (callsIn_wide.2 (H92'.out _ (Ext.drew (Ext.refl _))))).mono ?_; rintro e w5 ⟨rfl, rfl⟩))
      all_goals exact hcont
    · have hcb : clB ms L (i, k) = false := by rw [HCL.out]; simpa using hle
      gi_wp2
      rename_i K1 aK1
      have hcont : K1 { tmps := #[.pointer (some ⟨b, 0, none⟩), .pointer (some ⟨w.heap.size, 0, none⟩), .map none, .pointer (some ⟨w.heap.size + 1 + 1, 0, none⟩), .pointer (some ⟨Bx, 0, none⟩), .pointer (some ⟨w'.heap.size, 0, none⟩), .map (some (w.heap.size + 1)), .pointer (some ⟨b, 0, none⟩), .func (.func 105) #[] #[.pointer (some ⟨w.heap.size + 1 + 1 + 1, 0, none⟩)], .agg #[.int .i64 (i : Int), .int .i64 (k : Int)], .pointer (some ⟨b, 0, none⟩), .agg #[.int .i64 (i : Int), .int .i64 (k : Int)], .agg #[.int .i64 a0, .int .i64 a1, .int .i64 a2, .int .i64 a3, .int .i64 a4, .int .i64 a5, .int .i64 a6, .int .i64 a7, .int .i64 a8, .int .i64 a9, .int .i64 a10, .int .i64 a11], .slice (some ⟨w'.heap.size, 0, none⟩) 12 12, .int .i64 (mx : Int), .pointer (some ⟨b, 0, none⟩), .pointer (some ⟨b, 0, none⟩), .pointer (some ⟨b, 0, none⟩), .pointer (some ⟨b, 1, none⟩), .int .i64 (L : Int), .bool false, undef, undef, undef, undef, undef, undef], defers := [] } ((w'.alloc (.cells #[.int .i64 a0, .int .i64 a1, .int .i64 a2, .int .i64 a3, .int .i64 a4, .int .i64 a5, .int .i64 a6, .int .i64 a7, .int .i64 a8, .int .i64 a9, .int .i64 a10, .int .i64 a11] 102)).drew) := by
        apply aK1
        gi_wp2
        refine ⟨((ext_keeps HWA.out).trans (KeepsOthers.drew _)).from _, ⟨(HWA.out.mono HE.out.size).drew, ?_⟩, ⟨⟨?_, P2.out, P0.out, P3.out⟩, (HE.out.trans (HWA.out.mono HE.out.size)).drew⟩⟩
        · intro r hr
          simp only [List.mem_singleton] at hr
          subst hr
          exact HWA.out.block _ Q3.out.lt
        · rw [pvals_snoc, clF_no _ _ _ _ hcb]
          exact (Q1.out.ext (Ext.drew HWA.out)).more (by simp)
      gi_region_with_o (first | (refine ⟨trivial, ?_⟩; gi_at_call 92; refine (CallsIn.inRound l (callsIn_wide.2 (H92'.out _ (Ext.drew (Ext.refl _))))).mono ?_; rintro e w5 ⟨rfl, rfl⟩))
      all_goals exact hcont
  case done =>
    rintro D ys W hD hS ⟨⟨q2, q1, q0, q3⟩, hB⟩ hK
    have d1 := q1.cell
    rw [show pvals ms.length ys = pairsL ms.length from hS] at q2
    have Q2 := Lib.hid q2; have HK := Lib.hid hK; have Q1 := Lib.hid q1; have HB := Lib.hid hB
    have hlen : ys.length ≤ 200 := by
      have h1 : (pvals ms.length ys).length = (pairsL ms.length).length := congrArg List.length hS
      rw [pvals_length] at h1
      have h2 := pairsL_small ms.length hml
      omega
    clear hK q1 q2 q0 q3 hB h2 h3
    gi_wp2
    refine ⟨by simp, .inl ⟨_, _, rfl, run_takeDeferred HK.out, ?_⟩⟩
    refine ⟨_, results_tmp rfl _ _ _, ⟨_, rfl, by omega, ?_, ?_⟩⟩
    · refine (Q2.out.block ?_).more hlen
      simp only [World.putObj, Array.getElem?_setIfInBounds]
      rw [if_neg (by omega)]
    · exact HB.out.trans (belowK_b (w := w) (Nat.le_refl _) _ D _ _ (by omega) HK.out rfl rfl)
  case stop =>
    rintro D c pre W _ _ h _
    exact h.elim
end Go.Proofs.Ytlgdnbpboonhdaa
