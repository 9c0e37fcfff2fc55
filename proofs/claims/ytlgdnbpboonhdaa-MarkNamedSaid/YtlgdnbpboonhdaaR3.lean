/- The margin. -/
import Derived.Test.YtlgdnbpboonhdaaR2
import Derived.Test.YtlgdnbpboonhdaaM13
import Derived.RangeFuncBox
namespace Go.Proofs.Ytlgdnbpboonhdaa
open Go.RowKit Go.Shelf
set_option linter.unusedVariables false
attribute [local go_sem] Oper.semAt_some
/-- How many strokes one of two owners' marks loses down to those that they share. -/
def mAt (ms : List Nat) (i : Nat) : Nat := ms[i]?.getD 0
def dA (ms : List Nat) (p : Nat × Nat) : Nat := pc (dif (mAt ms p.1) (mAt ms p.1 &&& mAt ms p.2))
def dB (ms : List Nat) (p : Nat × Nat) : Nat := pc (dif (mAt ms p.2) (mAt ms p.1 &&& mAt ms p.2))
def mg (ms : List Nat) (p : Nat × Nat) : Int := max (dA ms p : Int) (dB ms p : Int) - 1
/-- The greatest Loss with which all marks would be apart. -/
def marginL (S : Nat) (ms : List Nat) (ps : List (Nat × Nat)) : Int := ps.foldl (fun a p => min a (mg ms p)) (S : Int)
theorem marginL_snoc (S : Nat) (ms : List Nat) (ps : List (Nat × Nat)) (p : Nat × Nat) : marginL S ms (ps ++ [p]) = min (marginL S ms ps) (mg ms p) := by simp [marginL]
theorem ext_keeps {w w' : World} (h : Ext w w') : KeepsOthers w w' := ⟨h.size, fun k o hk _ => block_ext h hk⟩
theorem marginL_bd (S : Nat) (ms : List Nat) (ps : List (Nat × Nat)) (hS : S ≤ 10) : -1 ≤ marginL S ms ps ∧ marginL S ms ps ≤ 10 := by
  unfold marginL
  have : ∀ (ps : List (Nat × Nat)) (a : Int), -1 ≤ a → a ≤ 10 → -1 ≤ ps.foldl (fun a p => min a (mg ms p)) a ∧ ps.foldl (fun a p => min a (mg ms p)) a ≤ 10 := by
    intro ps
    induction ps with
    | nil => intro a h1 h2; exact ⟨h1, h2⟩
    | cons p l ih =>
      intro a h1 h2
      simp only [List.foldl_cons]
      have : -1 ≤ mg ms p := by unfold mg; omega
      exact ih _ (by omega) (by omega)
  exact this ps S (by omega) (by omega)
theorem wrapi64_int (a : Int) (h1 : -1000 ≤ a) (h2 : a ≤ 1000000) : IntKind.i64.wrap a = a := by
  simp [IntKind.wrap, IntKind.bits, IntKind.signed]; omega
theorem marginL_le (S : Nat) (ms : List Nat) : ∀ (ps : List (Nat × Nat)), ∀ p ∈ ps, marginL S ms ps ≤ mg ms p := by
  have hmono : ∀ (ps : List (Nat × Nat)) (a : Int), ps.foldl (fun a p => min a (mg ms p)) a ≤ a := by
    intro ps
    induction ps with
    | nil => intro a; exact Int.le_refl _
    | cons q l ih => intro a; simp only [List.foldl_cons]; have := ih (min a (mg ms q)); omega
  have : ∀ (ps : List (Nat × Nat)) (a : Int), ∀ p ∈ ps, ps.foldl (fun a p => min a (mg ms p)) a ≤ mg ms p := by
    intro ps
    induction ps with
    | nil => intro a p hp; cases hp
    | cons q l ih =>
      intro a p hp
      simp only [List.foldl_cons]
      rcases List.mem_cons.1 hp with rfl | hp
      · have := hmono l (min a (mg ms p)); omega
      · exact ih _ p hp
  exact fun ps p hp => this ps S p hp
theorem results_cell1 {P : Program} {fn : Func} {p : Tmp} {ty : TypeId} {k : IntKind} {q : IntKind} {n : Int} (h : fn.results = #[.cell p ty]) (tmps : Array Value) (w : World) (b : Nat)
    (hp : tmps.getD p undef = .pointer (some ⟨b, 0, none⟩)) (hc : w.cell? ⟨b, 0, none⟩ = some (.int q n)) (hu : P.underlying ty = some (.int k)) : (results fn tmps).run P w = .ok (.int q n) w := by
  have hp' : tmps[p]?.getD undef = .pointer (some ⟨b, 0, none⟩) := by simpa using hp
  simp [results, h, hp', asAddr, loadVar, isAgg, run_underlying hu, go_sem, hc]
theorem ex12 (xs : List Int) (h : xs.length = 12) : ∃ a0 a1 a2 a3 a4 a5 a6 a7 a8 a9 a10 a11, xs = [a0, a1, a2, a3, a4, a5, a6, a7, a8, a9, a10, a11] := by
  match xs, h with
  | [a0, a1, a2, a3, a4, a5, a6, a7, a8, a9, a10, a11], _ => exact ⟨_, _, _, _, _, _, _, _, _, _, _, _, rfl⟩
theorem boxed_turn {A B : World} {g : Nat} {t : TypeId} {v : Value} (h : Boxed A g t v) {base : Nat} {row : Option Nat} (hg : A.grownBy B row) (hr : ∀ r, row = some r → base ≤ r ∧ ∃ o : Obj, A.heap[r]? = some o ∧ o.isCells = false) : Boxed B g t v :=
  (hg.block g h.lt (fun e => by
    obtain ⟨_, o, ho, hc⟩ := hr g e.symm
    have h' : A.heap[g]? = _ := h
    rw [h'] at ho; cases ho; cases hc)).trans h
theorem cells_turn {A B : World} {g : Nat} {cs : Array Value} {t : TypeId} {fr : Nat × Nat} (h : A.heap[g]? = some (.cells cs t fr)) {base : Nat} {row : Option Nat} (hg : A.grownBy B row) (hr : ∀ r, row = some r → base ≤ r ∧ ∃ o : Obj, A.heap[r]? = some o ∧ o.isCells = false) : B.heap[g]? = some (.cells cs t fr) :=
  (hg.block g (Array.getElem?_eq_some_iff.1 h).1 (fun e => by
    obtain ⟨_, o, ho, hc⟩ := hr g e.symm
    rw [h] at ho; cases ho; cases hc)).trans h
theorem kp2_b {w : World} {B : Nat} {rs : List Nat} (hB : B ≤ w.heap.size) (hrs : ∀ r ∈ rs, r < w.heap.size) : ∀ (W : World) (l : Nat) (o o' : Obj), w.heap.size ≤ l → W.heap[l]? = some o → o.isCells = false → o.isWalk = false → Kp2 B rs W (W.putObj l o') := fun W l o o' h1 h2 h3 h4 =>
  ⟨belowK_b hB W l o o' h1 h2 h3 h4, fun r hr => by
    have := hrs r hr
    simp only [World.putObj, Array.getElem?_setIfInBounds]
    rw [if_neg (by omega)]⟩
set_option maxRecDepth 100000 in
set_option maxHeartbeats 4000000 in
theorem margin69 (b S L : Nat) (ms : List Nat) (v : Value) (w : World) (hv : Valid S L ms) (hr : RegAt w b S L v ms) :
    Calls Try.prog 69 #[.pointer (some ⟨b, 0, none⟩)] w fun e w' => e = .returned (.int .i64 (marginL S ms (pairsL ms.length))) ∧ Ext w w' := by
  refine (callsIn_wide (n := 10)).1 ?_
  have HR := Lib.hid hr
  obtain ⟨⟨h1, h2, h3⟩, hvv⟩ := hr
  have HV := Lib.hid hv
  have hbl := lt_of_cell h1
  clear hv hvv h2
  refine callsIn_of_wp_marks Try.func69 rfl trivial ?_ rfl
  simp only [Try.ntmps69, List.size_toArray, List.length_cons, List.length_nil, Nat.reduceAdd, Nat.reduceSub, Array.replicate_succ, Array.replicate_zero, List.push_toArray, List.append_toArray, List.nil_append, List.cons_append]
  gi_wp2_with (refine ⟨trivial, ?_⟩; gi_at_call 90; refine (callsIn_wide.2 (pairs90 b _)).mono ?_; rintro e w' ⟨rfl, rfl⟩)
  have hml := HV.out.2.2.2.1
  have hW : ∃ W0, (((w.alloc (.cells #[.pointer (some ⟨b, 0, none⟩)] 63)).alloc (.cells #[.int .i64 0] 3)).alloc (.cells #[.int .i64 (S : Int)] 3)).alloc (.cells #[.pointer (some ⟨b, 0, none⟩)] 63) = W0 := ⟨_, rfl⟩
  have b0 := (((Boxed.new w 63 (.pointer (some ⟨b, 0, none⟩))).alloc (.cells #[.int .i64 0] 3)).alloc (.cells #[.int .i64 (S : Int)] 3)).alloc (.cells #[.pointer (some ⟨b, 0, none⟩)] 63)
  have b1 := ((Boxed.new (w.alloc (.cells #[.pointer (some ⟨b, 0, none⟩)] 63)) 3 (.int .i64 0)).alloc (.cells #[.int .i64 (S : Int)] 3)).alloc (.cells #[.pointer (some ⟨b, 0, none⟩)] 63)
  have b2 := (Boxed.new ((w.alloc (.cells #[.pointer (some ⟨b, 0, none⟩)] 63)).alloc (.cells #[.int .i64 0] 3)) 3 (.int .i64 (S : Int))).alloc (.cells #[.pointer (some ⟨b, 0, none⟩)] 63)
  have b3 := Boxed.new (((w.alloc (.cells #[.pointer (some ⟨b, 0, none⟩)] 63)).alloc (.cells #[.int .i64 0] 3)).alloc (.cells #[.int .i64 (S : Int)] 3)) 63 (.pointer (some ⟨b, 0, none⟩))
  have hB0 : Below w.heap.size w ((((w.alloc (.cells #[.pointer (some ⟨b, 0, none⟩)] 63)).alloc (.cells #[.int .i64 0] 3)).alloc (.cells #[.int .i64 (S : Int)] 3)).alloc (.cells #[.pointer (some ⟨b, 0, none⟩)] 63)) :=
    ((((Ext.refl w).alloc _).alloc _).alloc _).alloc _
  have hsz : ((((w.alloc (.cells #[.pointer (some ⟨b, 0, none⟩)] 63)).alloc (.cells #[.int .i64 0] 3)).alloc (.cells #[.int .i64 (S : Int)] 3)).alloc (.cells #[.pointer (some ⟨b, 0, none⟩)] 63)).heap.size = w.heap.size + 4 := by simp
  simp only [World.size_alloc] at b1 b2 b3
  obtain ⟨W0, hW0⟩ := hW
  rw [hW0] at b0 b1 b2 b3 hB0 hsz ⊢
  clear hW0
  obtain ⟨hl, a, cap, rfl⟩ := HR.out.2.shape
  refine wpIn_rangeFunc_ownH rfl (by omega) (gf := 105) (lb := #[.pointer (some ⟨w.heap.size + 1 + 1 + 1, 0, none⟩)]) rfl trivial (enters_of Try.func105 (by kernel_rfl) rfl)
    (pairs_stops 9 (w.heap.size + 1 + 1 + 1) b w.heap.size ms.length cap a hml (by omega) W0 b3.cell ((hB0.cell (p := ⟨b, 2, none⟩) hbl).trans (by rw [h3, ints_length])) hbl hB0.size) Kp2.trans (kp2_b (by omega) (by simp; omega)) (Below.refl _ _) (fun _ => rfl)
    (fun pre W => (Boxed W (w.heap.size + 1 + 1) 3 (.int .i64 (marginL S ms (pvals _ pre))) ∧ Boxed W (w.heap.size + 1) 3 (.int .i64 0) ∧ Boxed W w.heap.size 63 (.pointer (some ⟨b, 0, none⟩)) ∧ Boxed W (w.heap.size + 1 + 1 + 1) 63 (.pointer (some ⟨b, 0, none⟩))) ∧ Below w.heap.size w W)
    (fun c pre W => (Boxed W (w.heap.size + 1) 3 (.int .i64 (-1)) ∧ c = .ret ∧ ∃ p ∈ pvals _ pre, mg ms p = -1) ∧ Below w.heap.size w W)
    ?hI ?hIx ⟨⟨b2, b1, b0, b3⟩, hB0⟩
    (fun x a' W => ∃ Bx, W0.heap.size ≤ Bx ∧ W.heap[Bx]? = some (.cells #[.int .i64 (x.1.1 : Int), .int .i64 (x.1.2 : Int)] 76 (0, 0)) ∧ a' = { tmps := #[.pointer (some ⟨b, 0, none⟩), .pointer (some ⟨w.heap.size, 0, none⟩), .pointer (some ⟨w.heap.size + 1, 0, none⟩), .pointer (some ⟨w.heap.size + 1 + 1, 0, none⟩), .pointer (some ⟨Bx, 0, none⟩), undef, .pointer (some ⟨b, 0, none⟩), .pointer (some ⟨b, 0, none⟩), .pointer (some ⟨b, 0, none⟩), .pointer (some ⟨b, 0, none⟩), .int .i64 (S : Int), .pointer (some ⟨b, 0, none⟩), .func (.func 105) #[] #[.pointer (some ⟨w.heap.size + 1 + 1 + 1, 0, none⟩)], .agg #[.int .i64 (x.1.1 : Int), .int .i64 (x.1.2 : Int)], undef, undef, undef, undef, undef, undef, undef, undef, undef, undef, undef, undef], defers := [] })
    ?hAx ?assign ?body ?done ?stop
  case hI => exact OwnFrom.and (fun s A B row hs hg hr => ⟨boxed_turn hs.1 hg hr, boxed_turn hs.2.1 hg hr, boxed_turn hs.2.2.1 hg hr, boxed_turn hs.2.2.2 hg hr⟩) (ownFrom_below (Nat.le_refl _) hB0.size)
  case hIx => exact fun c => OwnFrom.and (fun s A B row hs hg hr => ⟨boxed_turn hs.1 hg hr, hs.2⟩) (ownFrom_below (Nat.le_refl _) hB0.size)
  case hAx => exact fun x a' s A B row hs hg hr => let ⟨Bx, h1, h2, h3⟩ := hs; ⟨Bx, h1, cells_turn h2 hg hr, h3⟩
  case assign =>
    rintro l pre x W K ⟨⟨q2, q1, q0, q3⟩, hB⟩ hK
    dsimp only [encP]
    gi_wp2
    have h3l := q3.lt
    exact hK _ _ ((KeepsOthers.alloc _ _).from _) ⟨(Below.refl _ W).alloc hB.size _, fun r hr => Below.heap_alloc _ _ _ (by simp at hr; omega)⟩ ⟨⟨q2.alloc _, q1.alloc _, q0.alloc _, q3.alloc _⟩, hB.alloc hB.size _⟩ ⟨W.heap.size, by omega, heap_alloc_new _ _, rfl⟩
  case body =>
    rintro l pre x a' W hl ⟨r, hrl⟩ ⟨⟨q2, q1, q0, q3⟩, hB⟩ ⟨Bx, hBx, bX, rfl⟩ hlt
    obtain ⟨⟨i, k⟩, hik, hk⟩ := x
    dsimp only at hik hk bX ⊢
    have hi : i < ms.length := by omega
    have hmi : ms[i]? = some (mAt ms i) := by simp [mAt, hi]
    have hmk : ms[k]? = some (mAt ms k) := by simp [mAt, hk]
    have H91 := Lib.hid (lost91 b S L i k (mAt ms i) (mAt ms k) ms _ W (HR.out.ext hB) hmi hmk (HV.out.lt hmi) (HV.out.lt hmk) hml)
    have c0 := q0.cell
    have cX0 : W.cell? ⟨Bx, 0, none⟩ = some (.int .i64 (i : Int)) := by rw [cell_of_row _ _ _ _ _ _ bX]; rfl
    have cX1 : W.cell? ⟨Bx, 1, none⟩ = some (.int .i64 (k : Int)) := by rw [cell_of_row _ _ _ _ _ _ bX]; rfl
    have hik12 : i < 12 ∧ k < 12 ∧ i ≠ k := by omega
    have hmax := max_lost i k (dA ms (i, k) : Int) (dB ms (i, k) : Int) hik12.1 hik12.2.1 hik12.2.2 (by omega) (by omega)
    have hzero := zero_lost i k (dA ms (i, k) : Int) (dB ms (i, k) : Int) hik12.1 hik12.2.1 hik12.2.2
    have heq := eql12 (lostL i k (dA ms (i, k) : Int) (dB ms (i, k) : Int)) (lostL_length _ _ _ _)
    rw [lostA, show ((pc (dif (mAt ms i) (mAt ms i &&& mAt ms k)) : Nat) : Int) = (dA ms (i, k) : Int) from rfl, show ((pc (dif (mAt ms k) (mAt ms i &&& mAt ms k)) : Nat) : Int) = (dB ms (i, k) : Int) from rfl] at H91
    obtain ⟨xs, hxs⟩ : ∃ xs, xs = lostL i k (dA ms (i, k) : Int) (dB ms (i, k) : Int) := ⟨_, rfl⟩
    have hlen := lostL_length i k (dA ms (i, k) : Int) (dB ms (i, k) : Int)
    rw [← hxs] at H91 hmax hzero heq hlen
    obtain ⟨d, hd⟩ : ∃ d : Nat, d = dA ms (i, k) := ⟨_, rfl⟩
    obtain ⟨e', he⟩ : ∃ e' : Nat, e' = dB ms (i, k) := ⟨_, rfl⟩
    have hd10 : d ≤ 10 := by rw [hd]; exact pc_le _
    have he10 : e' ≤ 10 := by rw [he]; exact pc_le _
    rw [← hd, ← he] at hmax hzero
    have hmg : mg ms (i, k) = max (d : Int) (e' : Int) - 1 := by rw [hd, he]; rfl
    have HMG := Lib.hid hmg
    clear hxs hd he hmg hmi hmk
    obtain ⟨a0, a1, a2, a3, a4, a5, a6, a7, a8, a9, a10, a11, rfl⟩ := ex12 xs hlen
    have HMAX := Lib.hid (hmax a0 [a1, a2, a3, a4, a5, a6, a7, a8, a9, a10, a11] rfl)
    have HREAD : ∀ X : World, Reads (X.alloc (.cells #[.int .i64 a0, .int .i64 a1, .int .i64 a2, .int .i64 a3, .int .i64 a4, .int .i64 a5, .int .i64 a6, .int .i64 a7, .int .i64 a8, .int .i64 a9, .int .i64 a10, .int .i64 a11] 102)) (.slice (some ⟨X.heap.size, 0, none⟩) 12 12) [a0, a1, a2, a3, a4, a5, a6, a7, a8, a9, a10, a11] := fun X =>
      Reads.new X _ 102 _ rfl (by simp) _ rfl 12 12 rfl
    have HRD := Lib.hid HREAD
    rw [hzero] at heq
    have hE1 := hB
    simp only [List.map_cons, List.map_nil, z12] at heq H91
    clear hmax hzero hlen HREAD
    by_cases hz : (d : Int) = 0 ∧ (e' : Int) = 0
    · rw [decide_eq_true hz] at heq
      have HZ := Lib.hid hz; clear hz
      gi_wp2_with fail
      refine ⟨trivial, (CallsIn.inRound l (callsIn_wide.2 H91.out)).mono ?_⟩
      rintro e w' ⟨rfl, hb⟩
      have p1 : Boxed w' _ _ _ := block_ext hb q1
      have d1 := p1.cell
      have f1 := p1.frozen
      have hs1 := p1.lt
      have P1 := Lib.hid p1; have HB := Lib.hid hb; have HE := Lib.hid hB
      clear c0 cX0 cX1 p1 hb q0 q1 q2 q3 h1 h3 hB hE1
      gi_wp2
      refine ⟨((ext_keeps HB.out).trans ((KeepsOthers.setCell _ _ _).trans (KeepsOthers.alloc _ _))).from _, ⟨?_, rfl, (i, k), by rw [pvals_snoc]; simp, ?_⟩, ?_⟩
      · exact (P1.out.set _).alloc _
      · rw [HMG.out, HZ.out.1, HZ.out.2]; rfl
      · exact (((HE.out.trans (HB.out.mono HE.out.size)).setCell (p := ⟨w.heap.size + 1, 0, none⟩) (by simp) _).alloc (by have := HE.out.size; have := HB.out.size; simp; omega) _)
    · rw [decide_eq_false hz] at heq
      have HZ := Lib.hid hz; clear hz
      gi_wp2_with fail
      refine ⟨trivial, (CallsIn.inRound l (callsIn_wide.2 H91.out)).mono ?_⟩
      rintro e w' ⟨rfl, hb⟩
      have p2 : Boxed w' _ _ _ := block_ext hb q2
      have d2 := p2.cell
      have f2 := p2.frozen
      have hs2 := p2.lt
      obtain ⟨M, hM⟩ : ∃ M, M = marginL S ms (pvals _ pre) := ⟨_, rfl⟩
      rw [← hM] at d2
      have HM := Lib.hid hM
      have HB := Lib.hid hb
      have hMb : -1 ≤ M ∧ M ≤ 10 := by rw [hM]; exact marginL_bd S ms _ HV.out.2.1
      have hmx : Try.prog.follows .mixedOrders = true := by kernel_rfl
      obtain ⟨mx, hmx2⟩ : ∃ mx : Int, mx = max (d : Int) (e' : Int) := ⟨_, rfl⟩
      have hmb : 0 ≤ mx ∧ mx ≤ 10 := by omega
      have H92 : ∀ X : World, Ext (w'.alloc (.cells #[.int .i64 a0, .int .i64 a1, .int .i64 a2, .int .i64 a3, .int .i64 a4, .int .i64 a5, .int .i64 a6, .int .i64 a7, .int .i64 a8, .int .i64 a9, .int .i64 a10, .int .i64 a11] 102)) X →
          Calls Try.prog 92 #[.slice (some ⟨w'.heap.size, 0, none⟩) 12 12] X fun e w'' => e = .returned (.int .i64 mx) ∧ X = w'' := fun X hX => by
        have := max92_any _ a0 [a1, a2, a3, a4, a5, a6, a7, a8, a9, a10, a11] X ((HRD.out w').ext hX)
        rw [HMAX.out, ← hmx2] at this
        exact this
      have hwr : IntKind.i64.wrap (mx - 1) = mx - 1 := wrapi64_int _ (by omega) (by omega)
      have HX2 := Lib.hid hmx2; have H92' := Lib.hid H92
      have HB := Lib.hid hb; have HE := Lib.hid hB; have P2 := Lib.hid p2
      have p1 : Boxed w' _ _ _ := block_ext hb q1
      have p0 : Boxed w' _ _ _ := block_ext hb q0
      have p3 : Boxed w' _ _ _ := block_ext hb q3
      have P1 := Lib.hid p1; have P0 := Lib.hid p0; have P3 := Lib.hid p3
      have Q3 := Lib.hid q3
      clear c0 cX0 cX1 p2 p1 p0 p3 hb h1 h3 hM hmx2 H92 HRD HMAX q0 q1 q2 q3 hB hE1 bX
      obtain ⟨hM1, hM2⟩ := hMb
      obtain ⟨hm1, hm2⟩ := hmb
      gi_wp2
      gi_region_with_o (first | (refine ⟨trivial, ?_⟩; gi_at_call 92; refine (CallsIn.inRound l (callsIn_wide.2 (H92'.out _ (Ext.drew (Ext.refl _))))).mono ?_; rintro e w2 ⟨rfl, rfl⟩))
      all_goals gi_wp2
      all_goals
        have hval : marginL S ms (pvals ms.length (pre ++ [⟨(i, k), hik, hk⟩])) = min M (mx - 1) := by
          rw [pvals_snoc, marginL_snoc, HMG.out, ← HM.out, ← HX2.out]
        refine ⟨((ext_keeps HB.out).trans ((KeepsOthers.setCell _ _ _).trans ((KeepsOthers.alloc _ _).trans (KeepsOthers.drew _)))).from _, ⟨?_, ?_⟩, ⟨⟨?_, ?_, ?_, ?_⟩, ?_⟩⟩
        · exact (((HB.out.mono HE.out.size).setCell (p := ⟨w.heap.size + 1 + 1, 0, none⟩) (by simp; omega) _).alloc (by have := HE.out.size; have := HB.out.size; simp; omega) _).drew
        · intro r hr
          simp only [List.mem_singleton] at hr
          subst hr
          exact (((P3.out.other (B' := w.heap.size + 1 + 1) (by omega) _).alloc _ : Boxed _ _ _ _) : _ = _).trans Q3.out.symm
        · show Boxed _ _ _ _
          rw [hval]
          first
            | (rw [show min M (mx - 1) = mx - 1 by omega]; exact (P2.out.set _).alloc _)
            | (rw [show min M (mx - 1) = M by omega]; exact (P2.out.set _).alloc _)
        · exact (P1.out.other (B' := w.heap.size + 1 + 1) (by omega) _).alloc _
        · exact (P0.out.other (B' := w.heap.size + 1 + 1) (by omega) _).alloc _
        · exact (P3.out.other (B' := w.heap.size + 1 + 1) (by omega) _).alloc _
        · exact (((HE.out.trans (HB.out.mono HE.out.size)).setCell (p := ⟨w.heap.size + 1 + 1, 0, none⟩) (by simp; omega) _).alloc (by have := HE.out.size; have := HB.out.size; simp; omega) _).drew
  case done =>
    rintro D ys W hD hS ⟨⟨q2, q1, q0, q3⟩, hB⟩ hK
    have d2 := q2.cell
    have d1 := q1.cell
    have f1 := q1.frozen
    rw [show pvals ms.length ys = pairsL ms.length from hS] at d2
    obtain ⟨M, hM⟩ : ∃ M, M = marginL S ms (pairsL ms.length) := ⟨_, rfl⟩
    rw [← hM] at d2
    have HM := Lib.hid hM
    have HK := Lib.hid hK; have Q1 := Lib.hid q1; have HB := Lib.hid hB
    clear hM hK q1 q2 q0 q3 hB h1 h3
    gi_wp2
    have hK' : (W.setCell ⟨w.heap.size + 1, 0, none⟩ (.int .i64 M)).heap[D]? = some (.deferred (some [])) := (KeepsOthers.setCell _ _ _).same D _ HK.out rfl
    refine ⟨by simp, .inl ⟨_, _, rfl, run_takeDeferred hK', ?_⟩⟩
    have r1 : Boxed (W.setCell ⟨w.heap.size + 1, 0, none⟩ (.int .i64 M)) _ _ _ := Q1.out.set (.int .i64 M)
    have hc := cell_kept r1.cell (grownBy_putObj' _ D (.deferred none)) (fun r e => by cases e; exact ⟨_, hK', rfl⟩)
    refine ⟨.int .i64 M, results_cell1 Try.results69 _ _ _ rfl hc Try.underlying3, by rw [HM.out], ?_⟩
    have hb1 := HB.out.setCell (p := ⟨w.heap.size + 1, 0, none⟩) (by simp) (.int .i64 M)
    exact hb1.trans (belowK_b (w := w) (Nat.le_refl _) _ D _ _ (by omega) hK' rfl rfl)
  case stop =>
    rintro D c pre W hD hSp ⟨⟨q1, rfl, p, hp, hmg⟩, hB⟩ hK
    have hm : marginL S ms (pairsL ms.length) = -1 := by
      have hmem : p ∈ pairsL ms.length := (show pvals ms.length pre <+: pairsL ms.length from hSp).subset hp
      have h1 := marginL_bd S ms (pairsL ms.length) HV.out.2.1
      have h2 := marginL_le S ms _ p hmem
      omega
    have HM := Lib.hid hm; have HK := Lib.hid hK; have Q1 := Lib.hid q1; have HB := Lib.hid hB
    clear hm hK q1 hB hp hmg hSp h1 h3
    gi_wp2
    refine ⟨by simp, .inl ⟨_, _, rfl, run_takeDeferred HK.out, ?_⟩⟩
    have hc := cell_kept Q1.out.cell (grownBy_putObj' _ D (.deferred none)) (fun r e => by cases e; exact ⟨_, HK.out, rfl⟩)
    refine ⟨.int .i64 (-1), results_cell1 Try.results69 _ _ _ rfl hc Try.underlying3, by rw [HM.out], ?_⟩
    exact HB.out.trans (belowK_b (w := w) (Nat.le_refl _) _ D _ _ (by omega) HK.out rfl rfl)
end Go.Proofs.Ytlgdnbpboonhdaa
