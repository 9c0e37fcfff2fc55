/- The iterators Values and only over lists: what they yield. -/
import Derived.Test.YtclcippfodjfeaaI3
import Derived.Test.YtclcippfodjfeaaX1
namespace Go.Proofs.Ytclcippfodjfeaa
open Go.RowKit Go.Shelf
set_option linter.unusedVariables false
set_option linter.unusedSimpArgs false
attribute [local go_sem] Oper.semAt_some
/-- Lists, by their headers. -/
def encH (hd : Nat → Value) (q : Nat → Prop) (x : Sub q) : Array Value := #[hd x.val]
theorem values68 (a : Option Addr) (n cap : Nat) (w : World) : Calls Try.prog 68 #[.slice a n cap] w fun e w' =>
    e = .returned (.func (.func 87) #[] #[.pointer (some ⟨w.heap.size, 0, none⟩)]) ∧ w' = w.alloc (.cells #[.slice a n cap] 40) := by
  go_enter Try.func68, Try.ntmps68
  go_wp2
  go_ret
  exact ⟨rfl, rfl⟩
theorem only67 (va vm : Value) (w : World) (g1 : Nat) (c1 : Array Value) (e1 : va = .func (.func g1) #[] c1) (g2 : Nat) (r2 c2 : Array Value) (e2 : vm = .func (.func g2) r2 c2) : Calls Try.prog 67 #[va, vm] w fun e w' =>
    e = .returned (.func (.func 86) #[] #[.pointer (some ⟨w.heap.size, 0, none⟩), .pointer (some ⟨w.heap.size + 1, 0, none⟩)]) ∧ w' = (w.alloc (.cells #[va] 83)).alloc (.cells #[vm] 69) := by
  subst e1; subst e2
  go_enter Try.func67, Try.ntmps67
  go_wp2
  go_ret
  exact ⟨rfl, rfl⟩
set_option maxRecDepth 100000 in
set_option maxHeartbeats 4000000 in
/-- The iterator Values: all lists. -/
theorem values87 (f Bl N n cap : Nat) (a : Option Addr) (hd : Nat → Value) (rs : List Nat) (c : Nat) (w : World) (hf : 1 ≤ f) (hn : n ≤ N) (hn5 : n ≤ 5000) (hb : Boxed w Bl 40 (.slice a n cap))
    (hel : ∀ X, Keep rs c w X → ∀ i, i < n → ∃ b off, a = some ⟨b, off, none⟩ ∧ X.cell? ⟨b, off + i, none⟩ = some (hd i)) (hrs : ∀ r ∈ rs, r < w.heap.size) :
    SeqAny f 87 #[.pointer (some ⟨Bl, 0, none⟩)] (encH hd (· < n)) (Keep rs c) (fun ys => vF ys = List.range n) N w := by
  intro l J W hW hJ hY h0
  have c1 := Boxed.cell (block_ext hW hb)
  have HY := Lib.hid hY; have HJ := Lib.hid hJ; have H0 := Lib.hid h0; have HEL := Lib.hid hel; have HW := Lib.hid hW
  have hl3 : n ≤ 9223372036854775807 := by omega
  clear hY hJ h0 hb hel hW
  refine callsIn_of_wp Try.func87 rfl trivial ?_ rfl
  simp only [Try.ntmps87, List.size_toArray, List.length_cons, List.length_nil, Nat.reduceAdd, Nat.reduceSub, Array.replicate_succ, Array.replicate_zero, List.push_toArray, List.append_toArray, List.nil_append, List.cons_append]
  gi_wp2
  gi_loopw [7] (fun s wr => ∃ (pre : List (Sub (· < n))) (k : Nat), k ≤ n ∧ s = .int .i64 (k : Int) ∧ Hid (vF pre = List.range k) ∧ Hid (J pre wr) ∧ Hid (Keep rs c W wr))
    (fun s wr => n - (intOf s).toNat)
  case atStart => exact ⟨[], 0, Nat.zero_le _, by go_num, (by rfl : _ = _), H0.out, Keep.refl _ _ _⟩
  case round =>
    obtain ⟨pre, k, hk, rfl, hpv, hJw, hKw⟩ := hrel
    by_cases hlt : k < n
    · have hpl : pre.length < N := by
        have h1 := vF_len pre
        rw [hpv.out, List.length_range] at h1; omega
      obtain ⟨bb, off, rfl, hce⟩ := HEL.out wr ((Keep.ext HW.out).trans hKw.out) k hlt
      obtain ⟨fn, tmps, assign, body, hy1, hR1⟩ := HY.out pre ⟨k, hlt⟩ wr hJw.out hpl
      have HR1 := Lib.hid hR1; clear hR1
      dsimp only [encH] at hy1
      have hka : (0 : Int) ≤ (k : Int) := by omega
      have hkb : (k : Int) < (n : Int) := by omega
      have hkt : (k : Int).toNat = k := by omega
      gi_wp2
      refine HR1.out.mono ?_
      rintro e W2 ⟨rfl, hJ2, hk2⟩
      have HJ2 := Lib.hid hJ2; have HK2 := Lib.hid (hKw.out.trans hk2)
      clear hJ2 hk2 HR1
      gi_wp2
      go_roundw
      case rel => exact ⟨pre ++ [(⟨k, hlt⟩ : Sub (· < n))], k + 1, by omega, by go_num, (by rw [vF_snoc, hpv.out, List.range_succ] : _ = _), HJ2.out, HK2.out⟩
      case measure => simp [intOf]; omega
    · obtain rfl : k = n := by omega
      gi_wp2
      go_end0
      exact ⟨⟨_, rfl⟩, pre, hpv.out, hJw.out⟩
set_option maxRecDepth 100000 in
set_option maxHeartbeats 4000000 in
/-- The iterator only: those that are meant. -/
theorem only86 (f Ba Bm N ga mf c : Nat) (hd : Nat → Value) (q : Nat → Prop) (ca : Array Value) (p1 p2 : Addr) (rs : List Nat) (p : Nat → Bool) (L : List Nat) (w : World) (hf : 2 ≤ f) (hba : Boxed w Ba 83 (.func (.func ga) #[] ca)) (hbm : Boxed w Bm 69 (.func (.func mf) #[] #[.pointer (some p1), .pointer (some p2)]))
    (ega : ∀ args W, (callFunc ga args).run Try.prog W = .ok (.enter ga args) W) (egm : ∀ args W, (callFunc mf args).run Try.prog W = .ok (.enter mf args) W)
    (hrs : ∀ r ∈ rs, r < w.heap.size) (hna : Ba ∉ rs) (hnm : Bm ∉ rs)
    (hseq : SeqAny (f - 1) ga ca (encH hd q) (Keep rs c) (fun ys => vF ys = L) N w)
    (hm : ∀ (X : World) (x : Sub q), Keep rs c w X → Calls Try.prog mf #[hd x.val, .pointer (some p1), .pointer (some p2)] X fun e w' => e = .returned (.bool (p x.val)) ∧ Ext X w') :
    SeqAny f 86 #[.pointer (some ⟨Ba, 0, none⟩), .pointer (some ⟨Bm, 0, none⟩)] (encH hd fun k => q k ∧ p k = true) (Keep rs c) (fun ys => vF ys = L.filter p) N w := by
  intro l J W hW hJ hY h0
  have HY := Lib.hid hY; have HJ := Lib.hid hJ; have H0 := Lib.hid h0; have HRS := Lib.hid hrs; have HM := Lib.hid hm; have HSEQ := Lib.hid hseq; have HBM := Lib.hid hbm; have HNM := Lib.hid hnm
  have c1 := Boxed.cell (block_ext hW hba)
  have l1 := hba.lt; have l2 := hbm.lt; have l3 := hW.size
  clear hY hJ h0 hba hbm hrs hm hseq hna hnm
  refine callsIn_of_wp_marks Try.func86 rfl trivial ?_ rfl
  simp only [Try.ntmps86, List.size_toArray, List.length_cons, List.length_nil, Nat.reduceAdd, Nat.reduceSub, Array.replicate_succ, Array.replicate_zero, List.push_toArray, List.append_toArray, List.nil_append, List.cons_append]
  have hE1 : Ext W (W.alloc (.cells #[.func (.yield l) #[] #[]] 69)) := (Ext.refl W).alloc _
  have hy1 : Boxed (W.alloc (.cells #[.func (.yield l) #[] #[]] 69)) W.heap.size 69 (.func (.yield l) #[] #[]) := Boxed.new W 69 _
  have hz1 : (W.alloc (.cells #[.func (.yield l) #[] #[]] 69)).heap.size = W.heap.size + 1 := by simp
  have c1 := cell_ext hE1 c1
  gi_wp2
  generalize hW1 : W.alloc (.cells #[.func (.yield l) #[] #[]] 69) = W1 at *
  clear hW1
  refine wp_seqAny (by omega) (gf := ga) (lb := ca) (encs := encH hd q) (ps := #[6]) (rs := rs) (c := c) rfl ega HSEQ.out (Below.trans hW (hE1.mono hW.size)) (fun _ => rfl) (fun r hr => by have := HRS.out r hr; omega)
    (fun pre X => J (filtF p pre) X ∧ Keep rs c W1 X) ?hI ⟨abides HJ.out H0.out hE1, Keep.refl _ _ _⟩
    (fun x a' X => a' = { tmps := #[.func (.yield l) #[] #[], .pointer (some ⟨Ba, 0, none⟩), .pointer (some ⟨Bm, 0, none⟩), .pointer (some ⟨W.heap.size, 0, none⟩), hd x.val, .func (.func ga) #[] ca, hd x.val, undef, undef, undef, undef, undef, undef, undef, undef, undef], defers := [] })
    (fun x a' s A B row hs hg hr => hs) ?assign ?body ?done
  case hI => exact OwnFrom.and (fun s A B row hs hg hr => HJ.out _ A B row hs hg (fun r e => ⟨by have := (hr r e).1; omega, (hr r e).2⟩)) (ownFrom_keep (Nat.le_refl _) (fun r hr => by have := HRS.out r hr; omega))
  case assign =>
    rintro l' pre x X K hl' hI hK
    dsimp only [encH]
    gi_wp2
    exact hK _ _ (Keep.refl _ _ _) hI rfl
  case body =>
    rintro l' pre x A X hl' ⟨hJX, hKX⟩ rfl hlt2
    have nb : W.heap.size ∉ rs := fun h => by have := HRS.out _ h; omega
    have cm := hKX.cell HNM.out (cell_ext hE1 (Boxed.cell (block_ext hW HBM.out)))
    have cy := hKX.cell nb hy1.cell
    have hk0 : Keep rs c w X := (Keep.ext (hW.trans (hE1.mono hW.size))).trans hKX
    have hM := HM.out X x hk0
    have HKX := Lib.hid hKX; have HJX := Lib.hid hJX
    have hlen : (filtF p pre).length < N := Nat.lt_of_le_of_lt (filtF_len p pre) hlt2
    obtain ⟨pv, hpv⟩ : ∃ pv, pv = p x.val := ⟨_, rfl⟩
    rw [← hpv] at hM
    have HMM := Lib.hid hM; have HPV := Lib.hid hpv
    have HY1 := Lib.hid hy1
    have CY := Lib.hid (fun (Y : World) (h : Ext X Y) => cell_ext h cy)
    clear hKX hJX hk0 hM hpv hy1 c1
    try dsimp only
    cases pv
    · gi_wp2_with fail
      refine ⟨trivial, fun h => (by cases h), ?_⟩
      refine (CallsIn.inRound l' (callsIn_wide.2 HMM.out)).mono ?_
      rintro e w' ⟨rfl, hb⟩
      have HB := Lib.hid hb; clear hb
      gi_wp2
      refine ⟨fun f' h => (by cases h), ?_⟩
      gi_wp2
      refine ⟨Keep.ext HB.out, ?_, HKX.out.trans (Keep.ext HB.out)⟩
      rw [filtF_no p pre x (by rw [← HPV.out])]
      exact HJ.out _ _ _ none HJX.out ⟨HB.out.os, HB.out.tape, HB.out.output, HB.out.size, fun i hi _ => HB.out.block i hi⟩ (fun r e => by cases e)
    · gi_wp2_with fail
      refine ⟨trivial, fun h => (by cases h), ?_⟩
      refine (CallsIn.inRound l' (callsIn_wide.2 HMM.out)).mono ?_
      rintro e w' ⟨rfl, hb⟩
      have cy' := CY.out w' hb
      have hJ' : J (filtF p pre) w' := HJ.out _ _ _ none HJX.out ⟨hb.os, hb.tape, hb.output, hb.size, fun i hi _ => hb.block i hi⟩ (fun r e => by cases e)
      obtain ⟨fn, tmps, assign, body, hyy, hR⟩ := HY.out (filtF p pre) ⟨x.val, x.2, HPV.out.symm⟩ w' hJ' hlen
      have HR := Lib.hid (RoundIn.any (m' := f - 1 - 1 - 1) (l0 := l') hR)
      have HB := Lib.hid hb
      clear hb hR hJ'
      dsimp only [encH] at hyy
      gi_wp2_with fail
      refine ⟨fun h => (by cases h), ?_⟩
      refine HR.out.mono ?_
      rintro e W5 ⟨rfl, hJ5, hK5⟩
      have HJ5 := Lib.hid hJ5; have HK5 := Lib.hid ((Keep.ext HB.out).trans hK5)
      clear hJ5 hK5 HR
      gi_wp2
      refine ⟨HK5.out, ?_, HKX.out.trans HK5.out⟩
      rw [filtF_yes p pre x HPV.out.symm]
      exact HJ5.out
  case done =>
    rintro D ys X hD hS ⟨hJX, hKX⟩ hDW
    have hJ2 : J (filtF p ys) (X.putObj D (.deferred none)) := HJ.out.putObj _ hJX (by omega) hDW rfl
    have hS2 : vF (filtF p ys) = L.filter p := by rw [filtF_vals, hS]
    have HJ2 := Lib.hid hJ2; have HS2 := Lib.hid hS2; have HDW := Lib.hid hDW
    clear hJ2 hS2 hDW hJX hKX hS
    gi_wp2
    refine ⟨by simp, .inl ⟨_, _, rfl, run_takeDeferred HDW.out, ?_⟩⟩
    exact ⟨_, results_none rfl _ _ _, ⟨_, rfl⟩, _, HS2.out, HJ2.out⟩
end Go.Proofs.Ytclcippfodjfeaa
