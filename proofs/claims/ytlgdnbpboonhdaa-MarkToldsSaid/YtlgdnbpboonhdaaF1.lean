/- The marks that are asked for: ask, where it returns an error. -/
import Derived.Test.YtlgdnbpboonhdaaW4
import Derived.Test.YtlgdnbpboonhdaaT3
namespace Go.Proofs.Ytlgdnbpboonhdaa
open Go.RowKit Go.Shelf Go.Maps
set_option linter.unusedVariables false
attribute [local go_sem] Oper.semAt_some
theorem still_tail {P : Program} {id : Nat} {Q : Exit → Act → World → Prop} {a : Act} {w : World} {l : List Oper} (n : Nat) (hm : P.follows .mixedOrders = true) (hB : Region.lexTailB .any l.toArray n = true)
    (h : ∀ W : World, W = w.drew → wpStill P l.toArray W (fun a' => wpList P l.toArray Q (l.drop n) a' W) (l.take n) a) : (Code.region id l.toArray true).wp P Q a w :=
  wp_region_still_tail n hm hB (h _ rfl)
set_option maxRecDepth 100000 in
theorem ask1_100 (b S L bt i Br Bm : Nat) (ms qs : List Nat) (v u : Value) (T : Nat → Bool) (w : World) (hv : Valid S L ms) (ha : Valid S L qs) (hr : RegT w b S L bt v ms T) (hi : i < qs.length)
    (hBr : w.cell? ⟨Br, 0, none⟩ = some (.pointer (some ⟨b, 0, none⟩))) (hBm : w.cell? ⟨Bm, 0, none⟩ = some u) (hu : Reads w u (ints qs)) :
    Calls Try.prog 100 #[.int .i64 (i : Int), .pointer (some ⟨Br, 0, none⟩), .pointer (some ⟨Bm, 0, none⟩)] w fun e w' => e = .returned (.bool (untakenB (mAt qs i) L T)) ∧ Ext w w' := by
  obtain ⟨hl, a, cap, rfl⟩ := hu.shape
  have hai : qs[i]? = some (mAt qs i) := by simp [mAt, hi]
  obtain ⟨b1, off, rfl, hl2, hcy⟩ := hu.atN hai
  have hka : (0 : Int) ≤ (i : Int) := by omega
  have hkb : (i : Int) < (qs.length : Int) := by omega
  rw [ints_length] at *
  have H := fun W (hW : Ext w W) => untaken77 b S L bt (mAt qs i) ms v T W hv (hr.ext hW) (ha.mlt hai)
  have HH := Lib.hid H
  clear H hr hv ha hu hai
  have hmix : Try.prog.follows .mixedOrders = true := by kernel_rfl
  go_enter Try.func100, Try.ntmps100
  go_wp2
  refine still_tail 5 hmix (by kernel_rfl) fun W hW => ?_
  have hE : Ext w W := by rw [hW]; exact (Ext.refl w).drew
  clear hW
  have hBr := cell_ext hE hBr
  have hBm := cell_ext hE hBm
  have hcy := cell_ext hE hcy
  simp only [List.take_succ_cons, List.take_zero, List.drop_succ_cons, List.drop_zero]
  repeat still_step
  refine wpStill_nil ?_
  go_wp2_with (go_at_call 77; refine (HH.out _ hE).mono ?_; rintro e w' ⟨rfl, hb⟩; have HB := Lib.hid hb; clear hb)
  go_ret
  exact ⟨rfl, hE.trans HB.out⟩
theorem results_cell93 {fn : Func} {p t : Tmp} {x y z : Value} (h : fn.results = #[.cell p 93, .tmp t]) (tmps : Array Value) (w : World) (b : Nat)
    (hp : tmps.getD p undef = .pointer (some ⟨b, 0, none⟩)) (hc : w.heap[b]? = some (.cells #[x, y, z] 93 (0, 0))) :
    (results fn tmps).run Try.prog w = .ok (.tuple #[.agg #[x, y, z], tmps.getD t undef]) w := by
  have hp' : tmps[p]?.getD undef = .pointer (some ⟨b, 0, none⟩) := by simpa using hp
  have c0 : w.cell? ⟨b, 0, none⟩ = some x := by rw [cell_of_row _ _ _ _ _ _ hc]; rfl
  have c1 : w.cell? ⟨b, 1, none⟩ = some y := by rw [cell_of_row _ _ _ _ _ _ hc]; rfl
  have c2 : w.cell? ⟨b, 2, none⟩ = some z := by rw [cell_of_row _ _ _ _ _ _ hc]; rfl
  simp [results, h, hp', asAddr, loadVar, isAgg, run_underlying Try.underlying93, go_sem, c0, c1, c2]
theorem cells3_set {W : World} {b : Nat} {x y z : Value} {t : TypeId} {fr : Nat × Nat} (h : W.heap[b]? = some (.cells #[x, y, z] t fr)) (x' y' z' : Value) :
    (((W.setCell ⟨b, 0, none⟩ x').setCell ⟨b, 1, none⟩ y').setCell ⟨b, 2, none⟩ z').heap[b]? = some (.cells #[x', y', z'] t fr) := by
  have h1 : (W.setCell ⟨b, 0, none⟩ x').heap[b]? = some (.cells #[x', y, z] t fr) := by
    show (W.heap.modify b _)[b]? = _
    rw [Array.getElem?_modify, h]; simp
  have h2 : ((W.setCell ⟨b, 0, none⟩ x').setCell ⟨b, 1, none⟩ y').heap[b]? = some (.cells #[x', y', z] t fr) := by
    show ((W.setCell ⟨b, 0, none⟩ x').heap.modify b _)[b]? = _
    rw [Array.getElem?_modify, h1]; simp
  show (((W.setCell ⟨b, 0, none⟩ x').setCell ⟨b, 1, none⟩ y').heap.modify b _)[b]? = _
  rw [Array.getElem?_modify, h2]; simp
theorem ext_set {w W : World} (h : Ext w W) {b o : Nat} (hb : w.heap.size ≤ b) (v : Value) : Ext w (W.setCell ⟨b, o, none⟩ v) := Below.setCell (p := ⟨b, o, none⟩) h hb v
theorem ask79_err (S L : Int) (xs ys : List Int) (v u : Value) (w : World) (hr : Reads w v xs) (hu : Reads w u ys) (hc : chk S L xs ≠ 0) :
    Calls Try.prog 79 #[.agg #[.int .i64 S, .int .i64 L, v], u] w fun e w' => e = .returned (.tuple #[.agg #[.pointer none, .slice none 0 0, .map none], .int .i64 (chk S L xs)]) ∧ Ext w w' := by
  obtain ⟨hl, a, cap, rfl⟩ := hr.shape
  obtain ⟨hl', a', cap', rfl⟩ := hu.shape
  have E0 := Lib.hid ((((Ext.refl w).alloc (.cells #[.int .i64 S, .int .i64 L, .slice a xs.length cap] 24)).alloc (.cells #[.slice a' ys.length cap'] 22)).alloc (.cells #[.pointer none, .slice none 0 0, .map none] 93))
  have H := Lib.hid (open_err S L xs _ (.slice none 0 0) _ (hr.ext E0.out) hc)
  clear hr hu
  obtain ⟨c, hc'⟩ : ∃ c, c = chk S L xs := ⟨_, rfl⟩
  rw [← hc'] at hc H ⊢
  have hd : (c != 0) = true := by simpa using hc
  clear hc hc'
  go_enter Try.func79, Try.ntmps79
  go_wp2_with fail
  refine H.out.mono ?_
  rintro e w' ⟨rfl, hb⟩
  have HB := Lib.hid (E0.out.trans hb)
  have hB2 := block_ext hb (heap_alloc_new (((w.alloc (.cells #[.int .i64 S, .int .i64 L, .slice a xs.length cap] 24)).alloc (.cells #[.slice a' ys.length cap'] 22))) (.cells #[.pointer none, .slice none 0 0, .map none] 93))
  rw [World.size_alloc, World.size_alloc] at hB2
  have f0 := frozen_of_row _ _ 0 _ _ hB2
  have f1 := frozen_of_row _ _ 1 _ _ hB2
  have f2 := frozen_of_row _ _ 2 _ _ hB2
  have c0 : w'.cell? ⟨w.heap.size + 1 + 1, 0, none⟩ = some (.pointer none) := by rw [cell_of_row _ _ _ _ _ _ hB2]; rfl
  have c1 : w'.cell? ⟨w.heap.size + 1 + 1, 1, none⟩ = some (.slice none 0 0) := by rw [cell_of_row _ _ _ _ _ _ hB2]; rfl
  have c2 : w'.cell? ⟨w.heap.size + 1 + 1, 2, none⟩ = some (.map none) := by rw [cell_of_row _ _ _ _ _ _ hB2]; rfl
  have HB2 := Lib.hid hB2
  have hsz : w.heap.size + 1 + 1 < w'.heap.size := (Array.getElem?_eq_some_iff.1 hB2).1
  clear hB2 hb
  go_wp2
  refine bodyPost_ret (v := .tuple #[.agg #[.pointer none, .slice none 0 0, .map none], .int .i64 c]) ?_ rfl ⟨rfl, ?_⟩
  · exact results_cell93 Try.results79 _ _ (w.heap.size + 1 + 1) rfl ((Below.heap_alloc _ _ _ (by simpa using hsz)).trans (cells3_set HB2.out _ _ _))
  · exact (ext_set (ext_set (ext_set HB.out (by omega) _) (by omega) _) (by omega) _).alloc _
end Go.Proofs.Ytlgdnbpboonhdaa
