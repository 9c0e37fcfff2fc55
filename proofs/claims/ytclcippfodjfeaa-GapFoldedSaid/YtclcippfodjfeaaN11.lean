/- best over lists, by its contract. -/
import Derived.Test.YtclcippfodjfeaaN10
import Derived.Test.YtclcippfodjfeaaM1
namespace Go.Proofs.Ytclcippfodjfeaa
open Go.RowKit Go.Shelf
set_option linter.unusedVariables false
set_option linter.unusedSimpArgs false
attribute [local go_sem] Oper.semAt_some
/-- What best has found among the first lists. -/
def Fnd (hd : Nat → Value) (rows : Nat → List Nat) (q : Nat → Prop) (l : List Nat) (fnd : Bool) (hv : Value) : Prop := (fnd = false ∧ bestO (l.map rows) = none ∧ hv = .slice none 0 0) ∨ ∃ i, q i ∧ i ∈ l ∧ fnd = true ∧ bestO (l.map rows) = some (rows i) ∧ hv = hd i
theorem boxed_set {W : World} {b : Nat} {t : TypeId} {v : Value} (h : W.heap[b]? = some (.cells #[v] t (0, 0))) (u : Value) : (W.setCell ⟨b, 0, none⟩ u).heap[b]? = some (.cells #[u] t (0, 0)) := set_blk (cs := [v]) h u
theorem two_set {Y : World} {b1 b2 : Nat} {u z : Value} (v1 v2 : Value) (hne : b1 ≠ b2) (h1 : Y.heap[b1]? = some (.cells #[u] 23 (0, 0))) (h2 : Y.heap[b2]? = some (.cells #[z] 4 (0, 0))) :
    (Y.setCell ⟨b1, 0, none⟩ v1).cell? ⟨b2, 0, none⟩ = some z ∧ (Y.setCell ⟨b1, 0, none⟩ v1).frozen? ⟨b2, 0, none⟩ = false ∧ Keep [b1, b2] 0 Y ((Y.setCell ⟨b1, 0, none⟩ v1).setCell ⟨b2, 0, none⟩ v2) ∧
    ((Y.setCell ⟨b1, 0, none⟩ v1).setCell ⟨b2, 0, none⟩ v2).heap[b1]? = some (.cells #[v1] 23 (0, 0)) ∧ ((Y.setCell ⟨b1, 0, none⟩ v1).setCell ⟨b2, 0, none⟩ v2).heap[b2]? = some (.cells #[v2] 4 (0, 0)) := by
  have a1 := boxed_set h1 v1
  have a2 := (other_blk (grown_set Y b1 0 v1) (fun e => hne e.symm) (lt_of_blk h2)).trans h2
  exact ⟨cell_of_blk a2 rfl, frozen_of_blk a2 0, (Keep.set (rs := [b1, b2]) (c := 0) Y (b := b1) (o := 0) (by simp) (by omega) v1).trans (Keep.set (rs := [b1, b2]) (c := 0) _ (b := b2) (o := 0) (by simp) (by omega) v2),
    (other_blk (grown_set _ b2 0 _) hne (lt_of_blk a1)).trans a1, boxed_set a2 v2⟩
set_option maxRecDepth 100000 in
set_option maxHeartbeats 4000000 in
theorem best66 (w : World) (ga N : Nat) (ca : Array Value) (hd : Nat → Value) (rows : Nat → List Nat) (q : Nat → Prop) (L : List Nat)
    (ega : ∀ args W, (callFunc ga args).run Try.prog W = .ok (.enter ga args) W)
    (hseq : ∀ W, Ext w W → w.heap.size + 3 ≤ W.heap.size → SeqAny 11 ga ca (encH hd q) (Keep [w.heap.size + 1, w.heap.size + 1 + 1] 0) (fun ys => vF ys = L) N W)
    (hrd : ∀ i, q i → Reads w (hd i) (natI (rows i))) :
    Calls Try.prog 66 #[.func (.func ga) #[] ca, .func (.func 71) #[] #[]] w fun e w' => ∃ fnd hv, e = .returned hv ∧ Fnd hd rows q L fnd hv ∧ Ext w w' := by
  refine (callsIn_wide (n := 12)).1 ?_
  obtain ⟨w1, hw1⟩ : ∃ w1, w1 = ((w.alloc (.cells #[.func (.func 71) #[] #[]] 87)).alloc (.cells #[.slice none 0 0] 23)).alloc (.cells #[.bool false] 4) := ⟨_, rfl⟩
  have hE1 : Ext w w1 := by rw [hw1]; exact (((Ext.refl w).alloc _).alloc _).alloc _
  have hbo : Boxed w1 w.heap.size 87 (.func (.func 71) #[] #[]) := by rw [hw1]; exact ((Boxed.new w 87 _).alloc _).alloc _
  have hbf : Boxed w1 (w.heap.size + 1) 23 (.slice none 0 0) := by
    rw [hw1]
    have := (Boxed.new (w.alloc (.cells #[.func (.func 71) #[] #[]] 87)) 23 (.slice none 0 0)).alloc (.cells #[.bool false] 4)
    rw [World.size_alloc] at this; exact this
  have hbt : Boxed w1 (w.heap.size + 1 + 1) 4 (.bool false) := by
    rw [hw1]
    have := Boxed.new ((w.alloc (.cells #[.func (.func 71) #[] #[]] 87)).alloc (.cells #[.slice none 0 0] 23)) 4 (.bool false)
    rw [World.size_alloc, World.size_alloc] at this; exact this
  have hz1 : w1.heap.size = w.heap.size + 3 := by rw [hw1]; simp
  have HSEQ := Lib.hid (hseq w1 hE1 (by omega))
  have HE1 := Lib.hid hE1; have HBO := Lib.hid hbo; have HBF := Lib.hid hbf; have HBT := Lib.hid hbt; have HRD := Lib.hid hrd
  clear hseq hE1 hbo hbf hbt hrd
  refine callsIn_of_wp_marks Try.func66 rfl trivial ?_ rfl
  simp only [Try.ntmps66, List.size_toArray, List.length_cons, List.length_nil, Nat.reduceAdd, Nat.reduceSub, Array.replicate_succ, Array.replicate_zero, List.push_toArray, List.append_toArray, List.nil_append, List.cons_append]
  gi_wp2
  rw [← hw1]
  have HZ1 := Lib.hid hz1
  clear hw1 hz1
  refine wp_seqAny1 (n := 12) (by omega) (gf := ga) (encs := encH hd q) (ps := #[9]) (rs := [w.heap.size + 1, w.heap.size + 1 + 1]) (c := 0) rfl ega HSEQ.out (Below.refl _ _) (fun _ => rfl) (by have := HZ1.out; simp; omega)
    (fun pre X => ∃ fnd hv, X.heap[w.heap.size + 1]? = some (.cells #[hv] 23 (0, 0)) ∧ X.heap[w.heap.size + 1 + 1]? = some (.cells #[.bool fnd] 4 (0, 0)) ∧ Fnd hd rows q (vF pre) fnd hv ∧ Keep [w.heap.size + 1, w.heap.size + 1 + 1] 0 w1 X) ?hI ?h0 ?af ?assign ?body ?done
  case hI =>
    rintro s A B row ⟨fnd, hv, h1, h2, h3, h4⟩ hg hr
    exact ⟨fnd, hv, cells_turn h1 hg hr, cells_turn h2 hg hr, h3, ownFrom_keep (β := Unit) (Nat.le_refl _) (by have := HZ1.out; simp; omega) () A B row h4 hg hr⟩
  case h0 => exact ⟨false, _, HBF.out, HBT.out, .inl ⟨rfl, rfl, rfl⟩, Keep.refl _ _ _⟩
  case assign =>
    rintro l2 x X K hK
    dsimp only [encH]
    gi_wp2
    exact hK
  case body =>
    rintro l2 pre x X hl2 ⟨fnd, hv, h1, h2, h3, h4⟩ hlt3
    obtain ⟨x, hx⟩ := x
    repeat (rename_i q; clear q)
    have hEX : Ext w X := Below.keep HE1.out h4 (by simp; omega)
    have hz := HZ1.out
    have co := h4.cell (by simp; omega) HBO.out.cell
    have cf := cell_of_blk h1 (o := 0) rfl; have ct := cell_of_blk h2 (o := 0) rfl
    have ff := frozen_of_blk h1 0; have ft := frozen_of_blk h2 0
    have hrx := (HRD.out x hx).ext hEX
    obtain ⟨-, ax, capx, hhd⟩ := hrx.shape
    have hvs : vF (pre ++ [⟨x, hx⟩]) = vF pre ++ [x] := vF_snoc _ _
    have HH1 := Lib.hid h1; have HH2 := Lib.hid h2; have HH4 := Lib.hid h4; have HVS := Lib.hid hvs; have HRX := Lib.hid hrx; have HHD := Lib.hid hhd; have HEX := Lib.hid hEX
    obtain ⟨nx, hnx⟩ : ∃ nx, nx = (natI (rows x)).length := ⟨_, rfl⟩
    have c2 : (X.setCell ⟨w.heap.size + 1, 0, none⟩ (hd x)).cell? ⟨w.heap.size + 1 + 1, 0, none⟩ = some (.bool fnd) := far_ ct (by omega)
    have f2 : (X.setCell ⟨w.heap.size + 1, 0, none⟩ (hd x)).frozen? ⟨w.heap.size + 1 + 1, 0, none⟩ = false := by
      have hg := other_blk (grown_set X (w.heap.size + 1) 0 (hd x)) (show w.heap.size + 1 + 1 ≠ w.heap.size + 1 by omega) (lt_of_blk h2)
      exact frozen_of_blk (hg.trans h2) 0
    have KS := Lib.hid ((Keep.set (rs := [w.heap.size + 1, w.heap.size + 1 + 1]) (c := 0) X (b := w.heap.size + 1) (o := 0) (by simp) (by omega) (hd x)).trans (Keep.set (rs := [w.heap.size + 1, w.heap.size + 1 + 1]) (c := 0) _ (b := w.heap.size + 1 + 1) (o := 0) (by simp) (by omega) (.bool true)))
    have B1 := Lib.hid (show ((X.setCell ⟨w.heap.size + 1, 0, none⟩ (hd x)).setCell ⟨w.heap.size + 1 + 1, 0, none⟩ (.bool true)).heap[w.heap.size + 1]? = some (.cells #[hd x] 23 (0, 0)) from by
      have a1 := boxed_set h1 (hd x)
      exact (other_blk (grown_set _ (w.heap.size + 1 + 1) 0 _) (by omega) (lt_of_blk a1)).trans a1)
    have B2 := Lib.hid (show ((X.setCell ⟨w.heap.size + 1, 0, none⟩ (hd x)).setCell ⟨w.heap.size + 1 + 1, 0, none⟩ (.bool true)).heap[w.heap.size + 1 + 1]? = some (.cells #[.bool true] 4 (0, 0)) from by
      have a1 := (other_blk (grown_set X (w.heap.size + 1) 0 (hd x)) (show w.heap.size + 1 + 1 ≠ w.heap.size + 1 by omega) (lt_of_blk h2)).trans h2
      exact boxed_set a1 _)
    rw [hhd, ← hnx] at c2 f2 KS B1 B2
    rw [hhd, ← hnx]
    have HHD0 := Lib.hid (show hd x = .slice ax nx capx from by rw [hhd, hnx])
    have HRX := Lib.hid (show Reads X (.slice ax nx capx) (natI (rows x)) from by rw [← HHD0.out]; exact hrx)
    clear h1 h2 h4 hvs hrx hhd hEX hz hnx
    rcases h3 with ⟨rfl, hb, rfl⟩ | ⟨i, hqi, hil, rfl, hb, rfl⟩
    · have HB := Lib.hid hb
      clear hb
      gi_wp2
      refine ⟨fun f' h => (by cases h), ?_⟩
      gi_wp2
      refine ⟨KS.out, true, _, B1.out, B2.out, .inr ⟨x, hx, by rw [HVS.out]; simp, rfl, ?_, HHD0.out.symm⟩, HH4.out.trans KS.out⟩
      rw [HVS.out, List.map_append, List.map_cons, List.map_nil, bestO_snoc, HB.out]; rfl
    · have HB := Lib.hid hb
      have hri := ((HRD.out i hqi).ext HEX.out)
      obtain ⟨-, ai, capi, hhi⟩ := hri.shape
      have HHI := Lib.hid hhi; have HRI := Lib.hid hri
      have HIL := Lib.hid hil
      have C71 := Lib.hid (longestFirst71 _ _ (rows x) (rows i) X HRX.out hri)
      obtain ⟨o, ho⟩ : ∃ o, o = lfO (rows x) (rows i) := ⟨_, rfl⟩
      rw [← ho] at C71
      have HO := Lib.hid ho
      clear hb hhi hri hil ho
      gi_wp2_with fail
      refine ⟨trivial, (CallsIn.inRound l2 (callsIn_wide.2 C71.out)).mono ?_⟩
      rintro e w5 ⟨rfl, hb5⟩
      have g1 := block_ext hb5 HH1.out; have g2 := block_ext hb5 HH2.out
      have HG1 := Lib.hid g1; have HG2 := Lib.hid g2; have HB5 := Lib.hid hb5
      have cf5 := cell_of_blk g1 (o := 0) rfl; have ct5 := cell_of_blk g2 (o := 0) rfl
      have ff5 := frozen_of_blk g1 0; have ft5 := frozen_of_blk g2 0
      obtain ⟨t1, t2, t3, t4, t5⟩ := two_set (.slice ax nx capx) (.bool true) (by omega) g1 g2
      have T3 := Lib.hid t3; have T4 := Lib.hid t4; have T5 := Lib.hid t5
      have HBS := Lib.hid (show bestO ((vF pre ++ [x]).map rows) = if o < 0 then some (rows x) else some (rows i) from by
        rw [List.map_append, List.map_cons, List.map_nil, bestO_snoc, HB.out, HO.out]; rfl)
      clear g1 g2 hb5 t3 t4 t5 cf ct ff ft c2 f2 co C71
      by_cases hneg : o < 0
      · have hd1 : decide (o < 0) = true := decide_eq_true hneg
        gi_wp2
        refine ⟨(Keep.ext HB5.out).trans T3.out, true, _, T4.out, T5.out, .inr ⟨x, hx, by rw [HVS.out]; simp, rfl, ?_, HHD0.out.symm⟩, HH4.out.trans ((Keep.ext HB5.out).trans T3.out)⟩
        rw [HVS.out, HBS.out, if_pos (by omega)]
      · have hd1 : decide (o < 0) = false := decide_eq_false hneg
        gi_wp2
        refine ⟨Keep.ext HB5.out, true, _, HG1.out, HG2.out, .inr ⟨i, hqi, by rw [HVS.out]; exact List.mem_append_left _ HIL.out, rfl, ?_, rfl⟩, HH4.out.trans (Keep.ext HB5.out)⟩
        rw [HVS.out, HBS.out, if_neg (by omega)]
  case done =>
    rintro D ys X hD hS ⟨fnd, hv, h1, h2, h3, h4⟩ hDW
    have hEX : Ext w X := Below.keep HE1.out h4 (by simp; omega)
    have cf := cell_of_blk h1 (o := 0) rfl
    have HF := Lib.hid (show Fnd hd rows q L fnd hv from by rw [← hS]; exact h3)
    have HEX := Lib.hid hEX; have HDW := Lib.hid hDW
    have hlD : w1.heap.size ≤ D := hD
    have HZ := HZ1.out
    clear h1 h2 h3 h4 hEX hDW hS
    gi_wp2
    refine ⟨by simp, .inl ⟨_, _, rfl, run_takeDeferred HDW.out, ?_⟩⟩
    refine ⟨hv, by simp [results, Try.results66, go_sem], fnd, hv, rfl, HF.out, ?_⟩
    have h := HEX.out
    exact ⟨h.os, h.tape, h.output, by have := h.size; simpa [World.putObj] using this, fun k hk => by rw [World.putObj_heap_other (by omega)]; exact h.block k hk⟩
end Go.Proofs.Ytclcippfodjfeaa
