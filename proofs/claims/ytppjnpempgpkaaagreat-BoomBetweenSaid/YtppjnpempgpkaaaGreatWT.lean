/- with, by its contract. -/
import Derived.Test.YtppjnpempgpkaaaGreatSO
import Derived.Test.YtppjnpempgpkaaaGreatFW
import Derived.Test.YtppjnpempgpkaaaGreatH7
import Derived.Test.YtppjnpempgpkaaaGreatH6
import Derived.Test.YtppjnpempgpkaaaGreatN3
import Derived.Test.YtppjnpempgpkaaaGreatK1
namespace Go.Proofs.YtppjnpempgpkaaaGreat
open Go.RowKit Go.Shelf
set_option linter.unusedVariables false
set_option linter.unusedSimpArgs false
attribute [local go_sem] Oper.semAt_some

/-- A number put into a list before the first greater one. -/
def insL (n : Int) : List Int → List Int
  | [] => [n]
  | x :: l => if n < x then n :: x :: l else x :: insL n l
def gtB (n : Int) (l : List Int) : Bool := l.any fun x => decide (n < x)
def outK (n : Int) (l : List Int) : List Int := if gtB n l = true then insL n l else l
theorem gtB_snoc (n : Int) (l : List Int) (x : Int) : gtB n (l ++ [x]) = (gtB n l || decide (n < x)) := by unfold gtB; simp [List.any_append]
theorem insL_some {n x : Int} : ∀ {l : List Int}, gtB n l = true → insL n (l ++ [x]) = insL n l ++ [x]
  | [], h => by cases h
  | y :: l, h => by
    show (if n < y then n :: y :: (l ++ [x]) else y :: insL n (l ++ [x])) = _
    by_cases hy : n < y
    · rw [if_pos hy, show insL n (y :: l) = n :: y :: l from by unfold insL; rw [if_pos hy]]; rfl
    · have h1 : gtB n l = true := by
        unfold gtB at h ⊢
        rw [List.any_cons, decide_eq_false hy, Bool.false_or] at h
        exact h
      rw [if_neg hy, insL_some h1, show insL n (y :: l) = y :: insL n l from by rw [show insL n (y :: l) = if n < y then n :: y :: l else y :: insL n l from rfl, if_neg hy]]; rfl
theorem insL_none {n : Int} : ∀ {l : List Int}, gtB n l = false → insL n l = l ++ [n]
  | [], _ => rfl
  | y :: l, h => by
    unfold gtB at h
    rw [List.any_cons, Bool.or_eq_false_iff] at h
    have hy : ¬ n < y := of_decide_eq_false h.1
    rw [show insL n (y :: l) = if n < y then n :: y :: l else y :: insL n l from rfl, if_neg hy, insL_none (l := l) h.2]; rfl
theorem insL_first {n x : Int} (hx : n < x) : ∀ {l : List Int}, gtB n l = false → insL n (l ++ [x]) = l ++ [n] ++ [x]
  | [], _ => by show (if n < x then [n, x] else _) = _; rw [if_pos hx]; rfl
  | y :: l, h => by
    unfold gtB at h
    rw [List.any_cons, Bool.or_eq_false_iff] at h
    have hy : ¬ n < y := of_decide_eq_false h.1
    show (if n < y then n :: y :: (l ++ [x]) else y :: insL n (l ++ [x])) = _
    rw [if_neg hy, insL_first hx (l := l) h.2]; rfl
theorem insL_len (n : Int) : ∀ l : List Int, (insL n l).length = l.length + 1
  | [] => rfl
  | x :: l => by
    rw [show insL n (x :: l) = if n < x then n :: x :: l else x :: insL n l from rfl]
    by_cases h : n < x
    · rw [if_pos h]; rfl
    · rw [if_neg h, List.length_cons, insL_len n l]; rfl
theorem outK_len (n : Int) (l : List Int) : (outK n l).length ≤ l.length + 1 := by
  unfold outK
  split
  · rw [insL_len]; exact Nat.le_refl _
  · omega
theorem outK_end (n : Int) (l : List Int) : (if gtB n l = true then outK n l else outK n l ++ [n]) = insL n l := by
  unfold outK
  cases h : gtB n l with
  | true => simp
  | false => simp; exact (insL_none h).symm
theorem outK_a {n x : Int} {l : List Int} (h : gtB n l = true) : outK n (l ++ [x]) = outK n l ++ [x] ∧ gtB n (l ++ [x]) = true := by
  have h2 : gtB n (l ++ [x]) = true := by rw [gtB_snoc, h]; rfl
  unfold outK
  rw [if_pos h2, if_pos h, insL_some h]
  exact ⟨rfl, h2⟩
theorem outK_b {n x : Int} {l : List Int} (h : gtB n l = false) (hx : n < x) : outK n (l ++ [x]) = outK n l ++ [n] ++ [x] ∧ gtB n (l ++ [x]) = true := by
  have h2 : gtB n (l ++ [x]) = true := by rw [gtB_snoc, decide_eq_true hx, Bool.or_true]
  unfold outK
  rw [if_pos h2, if_neg (show ¬ gtB n l = true by rw [h]; decide), insL_first hx h]
  exact ⟨rfl, h2⟩
theorem outK_c {n x : Int} {l : List Int} (h : gtB n l = false) (hx : ¬ n < x) : outK n (l ++ [x]) = outK n l ++ [x] ∧ gtB n (l ++ [x]) = false := by
  have h2 : gtB n (l ++ [x]) = false := by rw [gtB_snoc, h, decide_eq_false hx]; rfl
  unfold outK
  rw [if_neg (show ¬ gtB n l = true by rw [h]; decide), if_neg (show ¬ gtB n (l ++ [x]) = true by rw [h2]; decide)]
  exact ⟨rfl, h2⟩
set_option maxRecDepth 100000 in
set_option maxHeartbeats 4000000 in
theorem with_c (v : Value) (l : List Int) (n : Int) (w : World) (hr : Reads w v l) : Calls Tryz.prog 34 #[v, .int .i64 n] w fun e w' => ∃ u, e = .returned u ∧ OwnI 3 w.heap.size w' u (insL n l) ∧ Ext w w' := by
  obtain ⟨hl5, a, cap, rfl⟩ := hr.shape
  have HR := Lib.hid hr
  obtain ⟨m, hm⟩ : ∃ m, m = l.length := ⟨_, rfl⟩
  have HM := Lib.hid hm
  rw [← hm] at hl5 HR ⊢
  clear hr hm
  have HE0 := Lib.hid (Ext.refl w)
  go_enter Tryz.func34, Tryz.ntmps34
  go_wp2
  go_loopw [5, 6, 7] (fun u d i wr => ∃ k : Nat, k ≤ m ∧ i = .int .i64 (k : Int) ∧ d = .bool (gtB n (l.take k)) ∧ Hid (OwnI 3 w.heap.size wr u (outK n (l.take k))) ∧ Hid (Ext w wr)) (fun u d i wr => m - (intOf i).toNat)
  case atStart => exact ⟨0, Nat.zero_le _, rfl, rfl, Lib.hid (OwnI.nil _ _ _), HE0⟩
  case round =>
    clear HE0
    obtain ⟨k, hk, rfl, rfl, HO, HE⟩ := hrel
    by_cases hlt : k < m
    · obtain ⟨b, off, x, rfl, hx, hc⟩ := (HR.out.ext HE.out).at (k := k) (by have := HM.out; omega)
      have HT := Lib.hid (take_snoc hx)
      have hlen : (outK n (l.take k)).length ≤ 5002 := by
        have := outK_len n (l.take k)
        rw [List.length_take] at this
        omega
      have HLN := Lib.hid hlen
      have hka : (0 : Int) ≤ (k : Int) := by omega
      have hkb : (k : Int) < (m : Int) := by omega
      have hkt : (k : Int).toNat = k := by omega
      have HXK := Lib.hid (show l.getD k 0 = x from by rw [List.getD_eq_getElem?_getD, hx]; rfl)
      clear hx hlen
      cases hq : gtB n (l.take k) with
      | true =>
        obtain ⟨h1, h2⟩ := outK_a (x := x) hq
        rw [← HT.out] at h1 h2
        have HA := Lib.hid h2
        have H1 := Lib.hid h1
        clear hq h1 h2
        obtain ⟨W4, hW4⟩ : ∃ W3, W3 = wr.alloc (.cells #[.int .i64 x] 3) := ⟨_, rfl⟩
        have hE4 : Ext wr W4 := by rw [hW4]; exact (Ext.refl _).alloc _
        have hz4 : W4.cell? ⟨wr.heap.size, 0, none⟩ = some (.int .i64 x) := cell_of_blk (by rw [hW4]; exact heap_alloc_new wr _) rfl
        obtain ⟨v4, X4, hrun, ho4, hg4⟩ := appendI_run (HO.out.ext hE4) (by have := HE.out.size; have := hE4.size; omega) (by have := HLN.out; omega) x wr.heap.size hz4 22
        have hob := own_from (HO.out.ext hE4)
        have HO4 := Lib.hid (show OwnI 3 w.heap.size X4 v4 (outK n (l.take (k + 1))) from by rw [H1.out]; exact ho4)
        have HE4 := Lib.hid (show Ext w X4 from grown_any (HE.out.trans hE4) hg4 (fun g e => by have := hob g e; omega))
        rw [hW4] at hrun
        clear hE4 hz4 ho4 hg4 hob hW4
        go_wp2_with (first | (refine wpList_append_run rfl _ _ 22 rfl rfl rfl hrun ?_) | fail)
        go_roundw
        case rel => exact ⟨k + 1, by omega, by go_num, by rw [HA.out], HO4, HE4⟩
        case measure => simp [intOf]; omega
      | false =>
        by_cases hnx : n < x
        · obtain ⟨h1, h2⟩ := outK_b hq hnx
          rw [← HT.out] at h1 h2
          have HA := Lib.hid h2
          have H1 := Lib.hid h1
          clear hq h1 h2
          obtain ⟨W4, hW4⟩ : ∃ W3, W3 = wr.alloc (.cells #[.int .i64 n] 3) := ⟨_, rfl⟩
          have hE4 : Ext wr W4 := by rw [hW4]; exact (Ext.refl _).alloc _
          have hz4 : W4.cell? ⟨wr.heap.size, 0, none⟩ = some (.int .i64 n) := cell_of_blk (by rw [hW4]; exact heap_alloc_new wr _) rfl
          obtain ⟨v4, X4, hrun, ho4, hg4⟩ := appendI_run (HO.out.ext hE4) (by have := HE.out.size; have := hE4.size; omega) (by have := HLN.out; omega) n wr.heap.size hz4 22
          have hob := own_from (HO.out.ext hE4)
          have HO4 := Lib.hid (show OwnI 3 w.heap.size X4 v4 (outK n (l.take k) ++ [n]) from by exact ho4)
          have HE4 := Lib.hid (show Ext w X4 from grown_any (HE.out.trans hE4) hg4 (fun g e => by have := hob g e; omega))
          rw [hW4] at hrun
          clear hE4 hz4 ho4 hg4 hob hW4
          go_upto_region 9 with (first | (refine wpList_append_run rfl _ _ 22 rfl rfl rfl hrun ?_) | fail)
          have hc := (HR.out.ext HE4.out).get (k := k) (by have := HM.out; omega)
          rw [HXK.out] at hc
          clear hrun
          obtain ⟨W5, hW5⟩ : ∃ W3, W3 = X4.alloc (.cells #[.int .i64 x] 3) := ⟨_, rfl⟩
          have hE5 : Ext X4 W5 := by rw [hW5]; exact (Ext.refl _).alloc _
          have hz5 : W5.cell? ⟨X4.heap.size, 0, none⟩ = some (.int .i64 x) := cell_of_blk (by rw [hW5]; exact heap_alloc_new X4 _) rfl
          obtain ⟨v5, X5, hrun, ho5, hg5⟩ := appendI_run (HO4.out.ext hE5) (by have := HE4.out.size; have := hE5.size; omega) (by rw [List.length_append]; have := HLN.out; simp; omega) x X4.heap.size hz5 22
          have hob := own_from (HO4.out.ext hE5)
          have HO5 := Lib.hid (show OwnI 3 w.heap.size X5 v5 (outK n (l.take (k + 1))) from by rw [H1.out]; exact ho5)
          have HE5 := Lib.hid (show Ext w X5 from grown_any (HE4.out.trans hE5) hg5 (fun g e => by have := hob g e; omega))
          rw [hW5] at hrun
          clear hE5 hz5 ho5 hg5 hob hW5
          go_wp2_with (first | (refine wpList_append_run rfl _ _ 22 rfl rfl rfl hrun ?_) | fail)
          go_roundw
          case rel => exact ⟨k + 1, by omega, by go_num, by rw [HA.out], HO5, HE5⟩
          case measure => simp [intOf]; omega
        · obtain ⟨h1, h2⟩ := outK_c hq hnx
          rw [← HT.out] at h1 h2
          have HA := Lib.hid h2
          have H1 := Lib.hid h1
          clear hq h1 h2
          obtain ⟨W4, hW4⟩ : ∃ W3, W3 = wr.alloc (.cells #[.int .i64 x] 3) := ⟨_, rfl⟩
          have hE4 : Ext wr W4 := by rw [hW4]; exact (Ext.refl _).alloc _
          have hz4 : W4.cell? ⟨wr.heap.size, 0, none⟩ = some (.int .i64 x) := cell_of_blk (by rw [hW4]; exact heap_alloc_new wr _) rfl
          obtain ⟨v4, X4, hrun, ho4, hg4⟩ := appendI_run (HO.out.ext hE4) (by have := HE.out.size; have := hE4.size; omega) (by have := HLN.out; omega) x wr.heap.size hz4 22
          have hob := own_from (HO.out.ext hE4)
          have HO4 := Lib.hid (show OwnI 3 w.heap.size X4 v4 (outK n (l.take (k + 1))) from by rw [H1.out]; exact ho4)
          have HE4 := Lib.hid (show Ext w X4 from grown_any (HE.out.trans hE4) hg4 (fun g e => by have := hob g e; omega))
          rw [hW4] at hrun
          clear hE4 hz4 ho4 hg4 hob hW4
          go_wp2_with (first | (refine wpList_append_run rfl _ _ 22 rfl rfl rfl hrun ?_) | fail)
          go_roundw
          case rel => exact ⟨k + 1, by omega, by go_num, by rw [HA.out], HO4, HE4⟩
          case measure => simp [intOf]; omega
    · have hkm : k = m := by omega
      subst k
      have hall : l.take m = l := List.take_of_length_le (by have := HM.out; omega)
      rw [hall] at HO ⊢
      have hend := outK_end n l
      have hlen : (outK n l).length ≤ 5002 := by have := outK_len n l; have := HM.out; omega
      have HLN := Lib.hid hlen
      cases hq : gtB n l with
      | true =>
        rw [hq, if_pos rfl] at hend
        have HI := Lib.hid hend
        clear hend hq hall hlen
        go_wp2
        go_ret
        exact ⟨_, rfl, by rw [← HI.out]; exact HO.out, HE.out⟩
      | false =>
        rw [hq, if_neg (by decide)] at hend
        have HI := Lib.hid hend
        clear hend hq hall hlen
        obtain ⟨W4, hW4⟩ : ∃ W3, W3 = wr.alloc (.cells #[.int .i64 n] 3) := ⟨_, rfl⟩
        have hE4 : Ext wr W4 := by rw [hW4]; exact (Ext.refl _).alloc _
        have hz4 : W4.cell? ⟨wr.heap.size, 0, none⟩ = some (.int .i64 n) := cell_of_blk (by rw [hW4]; exact heap_alloc_new wr _) rfl
        obtain ⟨v4, X4, hrun, ho4, hg4⟩ := appendI_run (HO.out.ext hE4) (by have := HE.out.size; have := hE4.size; omega) (by have := HLN.out; omega) n wr.heap.size hz4 22
        have hob := own_from (HO.out.ext hE4)
        have HO4 := Lib.hid (show OwnI 3 w.heap.size X4 v4 (insL n l) from by rw [← HI.out]; exact ho4)
        have HE4 := Lib.hid (show Ext w X4 from grown_any (HE.out.trans hE4) hg4 (fun g e => by have := hob g e; omega))
        rw [hW4] at hrun
        clear hE4 hz4 ho4 hg4 hob hW4
        go_wp2_with (first | (refine wpList_append_run rfl _ _ 22 rfl rfl rfl hrun ?_) | fail)
        go_ret
        exact ⟨_, rfl, HO4.out, HE4.out⟩
end Go.Proofs.YtppjnpempgpkaaaGreat
