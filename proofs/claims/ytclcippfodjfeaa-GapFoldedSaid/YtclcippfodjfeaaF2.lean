/- What the examples of the chapter are, by the kernel. Works, by its contract. -/
import Derived.Test.YtclcippfodjfeaaK5
import Derived.Test.YtclcippfodjfeaaN15
import Derived.Test.YtclcippfodjfeaaR9
import Derived.Test.YtclcippfodjfeaaR7
namespace Go.Proofs.Ytclcippfodjfeaa
open Go.RowKit
set_option linter.unusedVariables false
set_option linter.unusedSimpArgs false
set_option maxRecDepth 100000
theorem v_chkH : chkR rowH = 0 := by kernel_rfl
theorem v_chkE : chkR rowE = 0 := by kernel_rfl
theorem v_ask : askE rowH 2 = 0 := by kernel_rfl
theorem v_19a : turnV rowH 2 [-1, 0, 0, 1, 0, 1, -1, 1, 1] = (7, 0) := by kernel_rfl
theorem v_19b : (turnV rowH 2 [0, 0, 0, 1, 0, 1, -1, 1, 1]).2 = 16 := by kernel_rfl
theorem v_most : mostV rowH 2 = 7 := by kernel_rfl
theorem v_few : (tab rowH).length = 3 := by kernel_rfl
theorem v_place : placeI rowH = [0, 1, 0, 2, 0, 1, 1, 2, 2] := by kernel_rfl
theorem v_run : natI (longM rowH) = [0, 1, 3] := by kernel_rfl
theorem v_38a : runsV rowH 2 [[0, 1, 3], [2, 6, 7], [4, 5], [8]] = (7, 0) := by kernel_rfl
theorem v_38b : (runsV rowH 2 [[0, 1, 3], [2, 6, 7], [4, 5]]).2 = 14 := by kernel_rfl
theorem v_shH : shapeI rowH = [4, 3, 2] := by kernel_rfl
theorem v_shE : shapeI rowE = [3, 1] := by kernel_rfl
end Go.Proofs.Ytclcippfodjfeaa
namespace Go.Proofs.Ytclcippfodjfeaa
open Go.RowKit
set_option linter.unusedVariables false
set_option linter.unusedSimpArgs false
attribute [local go_sem] Oper.semAt_some
theorem ReadsL.of {W : World} {b : Nat} {cs : List Value} {n : Nat} {rs : List (List Int)} (hb : W.heap[b]? = some (.cells cs.toArray 23 (0, 0))) (hn : n = rs.length) (h5 : rs.length ≤ 5000) (h : ∀ i, i < rs.length → ∃ u, cs[i]? = some u ∧ Reads W u (rs.getD i [])) : ReadsL W (.slice (some ⟨b, 0, none⟩) n n) rs := by
  subst hn
  refine ⟨h5, _, _, rfl, ⟨Nat.le_refl _, by omega⟩, .inr ⟨b, 0, rfl, fun i hi => ?_⟩⟩
  obtain ⟨u, h1, h2⟩ := h i hi
  refine ⟨u, ?_, h2⟩
  rw [Nat.zero_add]
  exact cell_of_blk hb (by simpa using h1)
theorem w19a (v vt : Value) (W : World) (h : Reads W v rowH) (ht : Reads W vt [-1, 0, 0, 1, 0, 1, -1, 1, 1]) : Calls Try.prog 19 #[v, .int .i64 2, vt] W fun e w' => e = .returned (.tuple #[.int .i64 7, .int .i64 0]) ∧ Ext W w' := by
  have := checkTurning19 v vt rowH _ 2 W h ht
  rwa [v_19a] at this
theorem w19b (v vt : Value) (W : World) (h : Reads W v rowH) (ht : Reads W vt [0, 0, 0, 1, 0, 1, -1, 1, 1]) : Calls Try.prog 19 #[v, .int .i64 2, vt] W fun e w' => (∃ x, e = .returned (.tuple #[.int .i64 x, .int .i64 16])) ∧ Ext W w' := by
  have := checkTurning19 v vt rowH _ 2 W h ht
  rw [v_19b] at this
  exact this.mono fun e w' h => ⟨⟨_, h.1⟩, h.2⟩
theorem w23 (v : Value) (W : World) (h : Reads W v rowH) : Calls Try.prog 23 #[v, .int .i64 2] W fun e w' => e = .returned (.tuple #[.int .i64 7, .int .i64 0]) ∧ Ext W w' := by
  have := most23 v rowH 2 W h
  rwa [v_ask, if_pos rfl, v_most] at this
theorem w25 (v : Value) (W : World) (h : Reads W v rowH) : Calls Try.prog 25 #[v] W fun e w' => e = .returned (.tuple #[.int .i64 3, .int .i64 0]) ∧ Ext W w' := by
  have := fewest25 v rowH W h
  rw [v_chkH, if_pos rfl, v_few] at this
  exact this
theorem list_of {W : World} {f : Nat} {args : Array Value} {xs : List Int} (h : Calls Try.prog f args W (ListRef W 0 xs)) : Calls Try.prog f args W fun e w' => ∃ a cap, e = .returned (.tuple #[.slice a xs.length cap, .int .i64 0]) ∧ Reads w' (.slice a xs.length cap) xs ∧ Ext W w' :=
  h.mono fun e w' ⟨h1, h2⟩ => by
    rcases h1 with ⟨h, -⟩ | ⟨-, u, rfl, hr⟩
    · exact absurd rfl h
    · obtain ⟨_, a, cap, rfl⟩ := hr.shape
      exact ⟨a, cap, rfl, hr, h2⟩
theorem w31 (v : Value) (W : World) (h : Reads W v rowH) : Calls Try.prog 31 #[v] W fun e w' => ∃ a cap, e = .returned (.tuple #[.slice a 9 cap, .int .i64 0]) ∧ Reads w' (.slice a 9 cap) [0, 1, 0, 2, 0, 1, 1, 2, 2] ∧ Ext W w' := by
  have := place31 v rowH W h
  rw [v_chkH, v_place] at this
  exact this.mono fun e w' ⟨h1, h2⟩ => by
    rcases h1 with ⟨h, -⟩ | ⟨-, b, hb, rfl, hr⟩
    · exact absurd rfl h
    · exact ⟨_, _, rfl, hr.reads (by decide) rfl (by decide), h2⟩
theorem w33 (v : Value) (W : World) (h : Reads W v rowH) : Calls Try.prog 33 #[v] W fun e w' => ∃ a cap, e = .returned (.tuple #[.slice a 3 cap, .int .i64 0]) ∧ Reads w' (.slice a 3 cap) [0, 1, 3] ∧ Ext W w' := by
  have := run33 v rowH W h
  rw [v_chkH, v_run] at this
  exact list_of this
theorem w38a (v vl : Value) (W : World) (h : Reads W v rowH) (hl : ReadsL W vl [[0, 1, 3], [2, 6, 7], [4, 5], [8]]) : Calls Try.prog 38 #[v, .int .i64 2, vl] W fun e w' => e = .returned (.tuple #[.int .i64 7, .int .i64 0]) ∧ Ext W w' := by
  have := checkRuns38 v vl rowH 2 _ W h hl
  rwa [v_38a] at this
theorem w38b (v vl : Value) (W : World) (h : Reads W v rowH) (hl : ReadsL W vl [[0, 1, 3], [2, 6, 7], [4, 5]]) : Calls Try.prog 38 #[v, .int .i64 2, vl] W fun e w' => (∃ x, e = .returned (.tuple #[.int .i64 x, .int .i64 14])) ∧ Ext W w' := by
  have := checkRuns38 v vl rowH 2 _ W h hl
  rw [v_38b] at this
  exact this.mono fun e w' h => ⟨⟨_, h.1⟩, h.2⟩
theorem w27h (v : Value) (W : World) (h : Reads W v rowH) : Calls Try.prog 27 #[v] W fun e w' => ∃ a cap, e = .returned (.tuple #[.slice a 3 cap, .int .i64 0]) ∧ Reads w' (.slice a 3 cap) [4, 3, 2] ∧ Ext W w' := by
  have := shape27 v rowH W h
  rw [v_chkH, v_shH] at this
  exact list_of this
theorem w27e (v : Value) (W : World) (h : Reads W v rowE) : Calls Try.prog 27 #[v] W fun e w' => ∃ a cap, e = .returned (.tuple #[.slice a 2 cap, .int .i64 0]) ∧ Reads w' (.slice a 2 cap) [3, 1] ∧ Ext W w' := by
  have := shape27 v rowE W h
  rw [v_chkE, v_shE] at this
  exact list_of this
theorem w29 (v : Value) (W : World) (h : Reads W v rowH) : Calls Try.prog 29 #[v, .int .i64 2] W fun e w' => ∃ t a cap, turnV rowH 2 t = (7, 0) ∧ e = .returned (.tuple #[.slice a t.length cap, .int .i64 0]) ∧ Reads w' (.slice a t.length cap) t ∧ Ext W w' := by
  have := turning29 v rowH 2 W h
  refine this.mono fun e w' ⟨t, h1, h2⟩ => ?_
  rw [v_ask] at h1 h2
  obtain ⟨h3, h4⟩ := h1 rfl
  rcases h2.1 with ⟨h, -⟩ | ⟨-, u, rfl, hr⟩
  · exact absurd rfl h
  · obtain ⟨_, a, cap, rfl⟩ := hr.shape
    refine ⟨t, a, cap, ?_, rfl, hr, h2.2⟩
    rw [v_most] at h4
    rw [← h4]
    exact turnV_right (many := 2) v_chkH (by decide) h3
theorem w40 (v : Value) (W : World) (h : Reads W v rowH) : Calls Try.prog 40 #[v, .int .i64 2] W fun e w' => ∃ t a cap, runsV rowH 2 t = (7, 0) ∧ e = .returned (.tuple #[.slice a t.length cap, .int .i64 0]) ∧ ReadsL w' (.slice a t.length cap) t ∧ Ext W w' := by
  have := runs40 v rowH 2 W h
  refine this.mono fun e w' ⟨t, h1, h2⟩ => ?_
  rw [v_ask] at h1 h2
  obtain ⟨-, h4⟩ := h1 rfl
  rcases h2.1 with ⟨h, -⟩ | ⟨-, u, rfl, hr⟩
  · exact absurd rfl h
  · obtain ⟨_, a, cap, rfl, -⟩ := hr.shape
    exact ⟨t, a, cap, by rw [h4, v_most], rfl, hr, h2.2⟩
theorem w20 (v vt : Value) (t : List Int) (W : World) (h : Reads W v rowH) (ht : Reads W vt t) (e : turnV rowH 2 t = (7, 0)) : Calls Try.prog 20 #[v, .int .i64 2, vt] W fun e w' => e = .returned (.tuple #[.int .i64 7, .int .i64 0]) ∧ Ext W w' := by
  have := refTurning20 v vt rowH t 2 W h ht
  rwa [e] at this
theorem w39 (v vt : Value) (t : List (List Int)) (W : World) (h : Reads W v rowH) (ht : ReadsL W vt t) (e : runsV rowH 2 t = (7, 0)) : Calls Try.prog 39 #[v, .int .i64 2, vt] W fun e w' => e = .returned (.tuple #[.int .i64 7, .int .i64 0]) ∧ Ext W w' := by
  have := refRuns39 v vt rowH 2 t W h ht
  rwa [e] at this
theorem wI (u v : Value) (xs : List Int) (W : World) (hx : Reads W u xs) (hy : Reads W v xs) : Calls Try.prog 30 #[u, v] W fun e w' => e = .returned (.bool true) ∧ Ext W w' := by
  have := ints_any u v xs xs W hx hy
  rwa [beq_self_eq_true] at this
set_option maxRecDepth 100000 in
set_option maxHeartbeats 4000000 in
theorem works18 (w : World) : Calls Try.prog 18 #[] w fun e w' => e = .returned (.bool true) ∧ Ext w w' := by
  go_enter Try.func18, Try.ntmps18
  go_wp2_with fail
  refine (rows47 _).mono ?_
  rintro e w1 ⟨u, v, rfl, hu, hv, hb⟩
  obtain ⟨_, au, cu, rfl⟩ := hu.shape
  obtain ⟨_, av, cv, rfl⟩ := hv.shape
  have HU := Lib.hid (show Reads w1 (.slice au 9 cu) rowH from hu); have HV := Lib.hid (show Reads w1 (.slice av 4 cv) rowE from hv); have HE := Lib.hid hb
  clear hu hv hb
  rw [show rowH.length = 9 from rfl, show rowE.length = 4 from rfl]
  have HX := Lib.hid (show Ext w1 (w1.alloc (.cells #[.int .i64 (-1), .int .i64 0, .int .i64 0, .int .i64 1, .int .i64 0, .int .i64 1, .int .i64 (-1), .int .i64 1, .int .i64 1] 3)) from ((Ext.refl w1).alloc (.cells #[.int .i64 (-1), .int .i64 0, .int .i64 0, .int .i64 1, .int .i64 0, .int .i64 1, .int .i64 (-1), .int .i64 1, .int .i64 1] 3)))
  have HL := Lib.hid (show Reads (w1.alloc (.cells #[.int .i64 (-1), .int .i64 0, .int .i64 0, .int .i64 1, .int .i64 0, .int .i64 1, .int .i64 (-1), .int .i64 1, .int .i64 1] 3)) (.slice (some ⟨w1.heap.size, 0, none⟩) 9 9) [-1, 0, 0, 1, 0, 1, -1, 1, 1] from Reads.new w1 [-1, 0, 0, 1, 0, 1, -1, 1, 1] 3 _ rfl (by decide) _ rfl 9 9 rfl (by decide))
  go_wp2_with fail
  refine (w19a _ _ _ (HU.out.ext HX.out) HL.out).mono ?_
  rintro e w2 ⟨rfl, hb⟩
  have hb2 := HX.out.trans hb
  have HU := Lib.hid (HU.out.ext hb2)
  have HV := Lib.hid (HV.out.ext hb2)
  have HE := Lib.hid (HE.out.trans hb2)
  clear hb hb2 HL HX
  have HX := Lib.hid (show Ext w2 (w2.alloc (.cells #[.int .i64 0, .int .i64 0, .int .i64 0, .int .i64 1, .int .i64 0, .int .i64 1, .int .i64 (-1), .int .i64 1, .int .i64 1] 3)) from ((Ext.refl w2).alloc (.cells #[.int .i64 0, .int .i64 0, .int .i64 0, .int .i64 1, .int .i64 0, .int .i64 1, .int .i64 (-1), .int .i64 1, .int .i64 1] 3)))
  have HL := Lib.hid (show Reads (w2.alloc (.cells #[.int .i64 0, .int .i64 0, .int .i64 0, .int .i64 1, .int .i64 0, .int .i64 1, .int .i64 (-1), .int .i64 1, .int .i64 1] 3)) (.slice (some ⟨w2.heap.size, 0, none⟩) 9 9) [0, 0, 0, 1, 0, 1, -1, 1, 1] from Reads.new w2 [0, 0, 0, 1, 0, 1, -1, 1, 1] 3 _ rfl (by decide) _ rfl 9 9 rfl (by decide))
  go_wp2_with fail
  refine (w19b _ _ _ (HU.out.ext HX.out) HL.out).mono ?_
  rintro e w3 ⟨⟨x5, rfl⟩, hb⟩
  have hb2 := HX.out.trans hb
  have HU := Lib.hid (HU.out.ext hb2)
  have HV := Lib.hid (HV.out.ext hb2)
  have HE := Lib.hid (HE.out.trans hb2)
  clear hb hb2 HL HX
  go_wp2_with fail
  refine (w23 _ _ HU.out).mono ?_
  rintro e w4 ⟨rfl, hb⟩
  have HU := Lib.hid (HU.out.ext hb)
  have HV := Lib.hid (HV.out.ext hb)
  have HE := Lib.hid (HE.out.trans hb)
  clear hb
  go_wp2_with fail
  refine (w25 _ _ HU.out).mono ?_
  rintro e w5 ⟨rfl, hb⟩
  have HU := Lib.hid (HU.out.ext hb)
  have HV := Lib.hid (HV.out.ext hb)
  have HE := Lib.hid (HE.out.trans hb)
  clear hb
  go_wp2_with fail
  refine (w31 _ _ HU.out).mono ?_
  rintro e w6 ⟨ap, cp, rfl, hp, hb⟩
  have HU := Lib.hid (HU.out.ext hb)
  have HV := Lib.hid (HV.out.ext hb)
  have HE := Lib.hid (HE.out.trans hb)
  have HP := Lib.hid hp
  clear hb hp
  go_wp2_with fail
  refine (w33 _ _ HU.out).mono ?_
  rintro e w7 ⟨ar, cr, rfl, hr, hb⟩
  have HU := Lib.hid (HU.out.ext hb)
  have HV := Lib.hid (HV.out.ext hb)
  have HP := Lib.hid (HP.out.ext hb)
  have HE := Lib.hid (HE.out.trans hb)
  have HR := Lib.hid hr
  clear hb hr
  have HX := Lib.hid (show Ext w7 (((((w7.alloc (.cells #[.int .i64 0, .int .i64 1, .int .i64 3] 3)).alloc (.cells #[.int .i64 2, .int .i64 6, .int .i64 7] 3)).alloc (.cells #[.int .i64 4, .int .i64 5] 3)).alloc (.cells #[.int .i64 8] 3)).alloc (.cells #[.slice (some ⟨w7.heap.size, 0, none⟩) 3 3, .slice (some ⟨w7.heap.size + 1, 0, none⟩) 3 3, .slice (some ⟨w7.heap.size + 1 + 1, 0, none⟩) 2 2, .slice (some ⟨w7.heap.size + 1 + 1 + 1, 0, none⟩) 1 1] 23)) from ((((((Ext.refl w7).alloc (.cells #[.int .i64 0, .int .i64 1, .int .i64 3] 3)).alloc (.cells #[.int .i64 2, .int .i64 6, .int .i64 7] 3)).alloc (.cells #[.int .i64 4, .int .i64 5] 3)).alloc (.cells #[.int .i64 8] 3)).alloc (.cells #[.slice (some ⟨w7.heap.size, 0, none⟩) 3 3, .slice (some ⟨w7.heap.size + 1, 0, none⟩) 3 3, .slice (some ⟨w7.heap.size + 1 + 1, 0, none⟩) 2 2, .slice (some ⟨w7.heap.size + 1 + 1 + 1, 0, none⟩) 1 1] 23)))
  have HL := Lib.hid (show ReadsL (((((w7.alloc (.cells #[.int .i64 0, .int .i64 1, .int .i64 3] 3)).alloc (.cells #[.int .i64 2, .int .i64 6, .int .i64 7] 3)).alloc (.cells #[.int .i64 4, .int .i64 5] 3)).alloc (.cells #[.int .i64 8] 3)).alloc (.cells #[.slice (some ⟨w7.heap.size, 0, none⟩) 3 3, .slice (some ⟨w7.heap.size + 1, 0, none⟩) 3 3, .slice (some ⟨w7.heap.size + 1 + 1, 0, none⟩) 2 2, .slice (some ⟨w7.heap.size + 1 + 1 + 1, 0, none⟩) 1 1] 23)) (.slice (some ⟨w7.heap.size + 1 + 1 + 1 + 1, 0, none⟩) 4 4) [[0, 1, 3], [2, 6, 7], [4, 5], [8]] from by
    refine ReadsL.of (cs := [.slice (some ⟨w7.heap.size, 0, none⟩) 3 3, .slice (some ⟨w7.heap.size + 1, 0, none⟩) 3 3, .slice (some ⟨w7.heap.size + 1 + 1, 0, none⟩) 2 2, .slice (some ⟨w7.heap.size + 1 + 1 + 1, 0, none⟩) 1 1]) (by have := heap_alloc_new ((((w7.alloc (.cells #[.int .i64 0, .int .i64 1, .int .i64 3] 3)).alloc (.cells #[.int .i64 2, .int .i64 6, .int .i64 7] 3)).alloc (.cells #[.int .i64 4, .int .i64 5] 3)).alloc (.cells #[.int .i64 8] 3)) (.cells #[.slice (some ⟨w7.heap.size, 0, none⟩) 3 3, .slice (some ⟨w7.heap.size + 1, 0, none⟩) 3 3, .slice (some ⟨w7.heap.size + 1 + 1, 0, none⟩) 2 2, .slice (some ⟨w7.heap.size + 1 + 1 + 1, 0, none⟩) 1 1] 23); simpa using this) rfl (by decide) (fun i hi => ?_)
    match i, hi with
    | 0, _ => exact ⟨_, rfl, (Reads.new w7 [0, 1, 3] 3 (w7.heap.size) (by simp) (by decide) _ rfl 3 3 rfl (by decide)).ext (((((Ext.refl _).alloc _).alloc _).alloc _).alloc _)⟩
    | 1, _ => exact ⟨_, rfl, (Reads.new (w7.alloc (.cells #[.int .i64 0, .int .i64 1, .int .i64 3] 3)) [2, 6, 7] 3 (w7.heap.size + 1) (by simp) (by decide) _ rfl 3 3 rfl (by decide)).ext ((((Ext.refl _).alloc _).alloc _).alloc _)⟩
    | 2, _ => exact ⟨_, rfl, (Reads.new ((w7.alloc (.cells #[.int .i64 0, .int .i64 1, .int .i64 3] 3)).alloc (.cells #[.int .i64 2, .int .i64 6, .int .i64 7] 3)) [4, 5] 3 (w7.heap.size + 1 + 1) (by simp) (by decide) _ rfl 2 2 rfl (by decide)).ext (((Ext.refl _).alloc _).alloc _)⟩
    | 3, _ => exact ⟨_, rfl, (Reads.new (((w7.alloc (.cells #[.int .i64 0, .int .i64 1, .int .i64 3] 3)).alloc (.cells #[.int .i64 2, .int .i64 6, .int .i64 7] 3)).alloc (.cells #[.int .i64 4, .int .i64 5] 3)) [8] 3 (w7.heap.size + 1 + 1 + 1) (by simp) (by decide) _ rfl 1 1 rfl (by decide)).ext ((Ext.refl _).alloc _)⟩)
  go_wp2_with fail
  refine (w38a _ _ _ (HU.out.ext HX.out) HL.out).mono ?_
  rintro e w8 ⟨rfl, hb⟩
  have hb2 := HX.out.trans hb
  have HU := Lib.hid (HU.out.ext hb2)
  have HV := Lib.hid (HV.out.ext hb2)
  have HP := Lib.hid (HP.out.ext hb2)
  have HR := Lib.hid (HR.out.ext hb2)
  have HE := Lib.hid (HE.out.trans hb2)
  clear hb hb2 HL HX
  have HX := Lib.hid (show Ext w8 ((((w8.alloc (.cells #[.int .i64 0, .int .i64 1, .int .i64 3] 3)).alloc (.cells #[.int .i64 2, .int .i64 6, .int .i64 7] 3)).alloc (.cells #[.int .i64 4, .int .i64 5] 3)).alloc (.cells #[.slice (some ⟨w8.heap.size, 0, none⟩) 3 3, .slice (some ⟨w8.heap.size + 1, 0, none⟩) 3 3, .slice (some ⟨w8.heap.size + 1 + 1, 0, none⟩) 2 2] 23)) from (((((Ext.refl w8).alloc (.cells #[.int .i64 0, .int .i64 1, .int .i64 3] 3)).alloc (.cells #[.int .i64 2, .int .i64 6, .int .i64 7] 3)).alloc (.cells #[.int .i64 4, .int .i64 5] 3)).alloc (.cells #[.slice (some ⟨w8.heap.size, 0, none⟩) 3 3, .slice (some ⟨w8.heap.size + 1, 0, none⟩) 3 3, .slice (some ⟨w8.heap.size + 1 + 1, 0, none⟩) 2 2] 23)))
  have HL := Lib.hid (show ReadsL ((((w8.alloc (.cells #[.int .i64 0, .int .i64 1, .int .i64 3] 3)).alloc (.cells #[.int .i64 2, .int .i64 6, .int .i64 7] 3)).alloc (.cells #[.int .i64 4, .int .i64 5] 3)).alloc (.cells #[.slice (some ⟨w8.heap.size, 0, none⟩) 3 3, .slice (some ⟨w8.heap.size + 1, 0, none⟩) 3 3, .slice (some ⟨w8.heap.size + 1 + 1, 0, none⟩) 2 2] 23)) (.slice (some ⟨w8.heap.size + 1 + 1 + 1, 0, none⟩) 3 3) [[0, 1, 3], [2, 6, 7], [4, 5]] from by
    refine ReadsL.of (cs := [.slice (some ⟨w8.heap.size, 0, none⟩) 3 3, .slice (some ⟨w8.heap.size + 1, 0, none⟩) 3 3, .slice (some ⟨w8.heap.size + 1 + 1, 0, none⟩) 2 2]) (by have := heap_alloc_new (((w8.alloc (.cells #[.int .i64 0, .int .i64 1, .int .i64 3] 3)).alloc (.cells #[.int .i64 2, .int .i64 6, .int .i64 7] 3)).alloc (.cells #[.int .i64 4, .int .i64 5] 3)) (.cells #[.slice (some ⟨w8.heap.size, 0, none⟩) 3 3, .slice (some ⟨w8.heap.size + 1, 0, none⟩) 3 3, .slice (some ⟨w8.heap.size + 1 + 1, 0, none⟩) 2 2] 23); simpa using this) rfl (by decide) (fun i hi => ?_)
    match i, hi with
    | 0, _ => exact ⟨_, rfl, (Reads.new w8 [0, 1, 3] 3 (w8.heap.size) (by simp) (by decide) _ rfl 3 3 rfl (by decide)).ext ((((Ext.refl _).alloc _).alloc _).alloc _)⟩
    | 1, _ => exact ⟨_, rfl, (Reads.new (w8.alloc (.cells #[.int .i64 0, .int .i64 1, .int .i64 3] 3)) [2, 6, 7] 3 (w8.heap.size + 1) (by simp) (by decide) _ rfl 3 3 rfl (by decide)).ext (((Ext.refl _).alloc _).alloc _)⟩
    | 2, _ => exact ⟨_, rfl, (Reads.new ((w8.alloc (.cells #[.int .i64 0, .int .i64 1, .int .i64 3] 3)).alloc (.cells #[.int .i64 2, .int .i64 6, .int .i64 7] 3)) [4, 5] 3 (w8.heap.size + 1 + 1) (by simp) (by decide) _ rfl 2 2 rfl (by decide)).ext ((Ext.refl _).alloc _)⟩)
  go_wp2_with fail
  refine (w38b _ _ _ (HU.out.ext HX.out) HL.out).mono ?_
  rintro e w9 ⟨⟨x17, rfl⟩, hb⟩
  have hb2 := HX.out.trans hb
  have HU := Lib.hid (HU.out.ext hb2)
  have HV := Lib.hid (HV.out.ext hb2)
  have HP := Lib.hid (HP.out.ext hb2)
  have HR := Lib.hid (HR.out.ext hb2)
  have HE := Lib.hid (HE.out.trans hb2)
  clear hb hb2 HL HX
  go_wp2_with fail
  refine (w27h _ _ HU.out).mono ?_
  rintro e w10 ⟨a_s, c_s, rfl, hs, hb⟩
  have HU := Lib.hid (HU.out.ext hb)
  have HV := Lib.hid (HV.out.ext hb)
  have HP := Lib.hid (HP.out.ext hb)
  have HR := Lib.hid (HR.out.ext hb)
  have HE := Lib.hid (HE.out.trans hb)
  have HS := Lib.hid hs
  clear hb hs
  go_wp2_with fail
  refine (w27e _ _ HV.out).mono ?_
  rintro e w11 ⟨az, cz, rfl, hz, hb⟩
  have HU := Lib.hid (HU.out.ext hb)
  have HV := Lib.hid (HV.out.ext hb)
  have HP := Lib.hid (HP.out.ext hb)
  have HR := Lib.hid (HR.out.ext hb)
  have HS := Lib.hid (HS.out.ext hb)
  have HE := Lib.hid (HE.out.trans hb)
  have HZ := Lib.hid hz
  clear hb hz
  go_wp2_with fail
  refine (w29 _ _ HU.out).mono ?_
  rintro e w12 ⟨t, at_, ct, ht0, rfl, ht, hb⟩
  have HU := Lib.hid (HU.out.ext hb)
  have HV := Lib.hid (HV.out.ext hb)
  have HP := Lib.hid (HP.out.ext hb)
  have HR := Lib.hid (HR.out.ext hb)
  have HS := Lib.hid (HS.out.ext hb)
  have HZ := Lib.hid (HZ.out.ext hb)
  have HE := Lib.hid (HE.out.trans hb)
  have HT := Lib.hid ht; have HT0 := Lib.hid ht0
  clear hb ht ht0
  obtain ⟨lt, hlt⟩ : ∃ lt, lt = t.length := ⟨_, rfl⟩
  rw [← hlt] at HT ⊢
  clear hlt
  go_wp2_with fail
  refine (w40 _ _ HU.out).mono ?_
  rintro e w13 ⟨t2, al, cl, hl0, rfl, hl, hb⟩
  have HU := Lib.hid (HU.out.ext hb)
  have HV := Lib.hid (HV.out.ext hb)
  have HP := Lib.hid (HP.out.ext hb)
  have HR := Lib.hid (HR.out.ext hb)
  have HS := Lib.hid (HS.out.ext hb)
  have HZ := Lib.hid (HZ.out.ext hb)
  have HT := Lib.hid (HT.out.ext hb)
  have HE := Lib.hid (HE.out.trans hb)
  have HQ := Lib.hid hl; have HQ0 := Lib.hid hl0
  clear hb hl hl0
  obtain ⟨lq, hlq⟩ : ∃ lt, lt = t2.length := ⟨_, rfl⟩
  rw [← hlq] at HQ ⊢
  clear hlq
  go_wp2_with fail
  refine (w20 _ _ _ _ HU.out HT.out HT0.out).mono ?_
  rintro e w14 ⟨rfl, hb⟩
  have HU := Lib.hid (HU.out.ext hb)
  have HV := Lib.hid (HV.out.ext hb)
  have HP := Lib.hid (HP.out.ext hb)
  have HR := Lib.hid (HR.out.ext hb)
  have HS := Lib.hid (HS.out.ext hb)
  have HZ := Lib.hid (HZ.out.ext hb)
  have HT := Lib.hid (HT.out.ext hb)
  have HQ := Lib.hid (HQ.out.ext hb)
  have HE := Lib.hid (HE.out.trans hb)
  clear hb
  go_wp2_with fail
  refine (w39 _ _ _ _ HU.out HQ.out HQ0.out).mono ?_
  rintro e w15 ⟨rfl, hb⟩
  have HU := Lib.hid (HU.out.ext hb)
  have HV := Lib.hid (HV.out.ext hb)
  have HP := Lib.hid (HP.out.ext hb)
  have HR := Lib.hid (HR.out.ext hb)
  have HS := Lib.hid (HS.out.ext hb)
  have HZ := Lib.hid (HZ.out.ext hb)
  have HT := Lib.hid (HT.out.ext hb)
  have HQ := Lib.hid (HQ.out.ext hb)
  have HE := Lib.hid (HE.out.trans hb)
  clear hb
  have HX := Lib.hid (show Ext w15 (w15.alloc (.cells #[.int .i64 0, .int .i64 1, .int .i64 0, .int .i64 2, .int .i64 0, .int .i64 1, .int .i64 1, .int .i64 2, .int .i64 2] 3)) from ((Ext.refl w15).alloc (.cells #[.int .i64 0, .int .i64 1, .int .i64 0, .int .i64 2, .int .i64 0, .int .i64 1, .int .i64 1, .int .i64 2, .int .i64 2] 3)))
  have HL := Lib.hid (show Reads (w15.alloc (.cells #[.int .i64 0, .int .i64 1, .int .i64 0, .int .i64 2, .int .i64 0, .int .i64 1, .int .i64 1, .int .i64 2, .int .i64 2] 3)) (.slice (some ⟨w15.heap.size, 0, none⟩) 9 9) [0, 1, 0, 2, 0, 1, 1, 2, 2] from Reads.new w15 [0, 1, 0, 2, 0, 1, 1, 2, 2] 3 _ rfl (by decide) _ rfl 9 9 rfl (by decide))
  go_wp2_with fail
  refine (wI _ _ _ _ (HP.out.ext HX.out) HL.out).mono ?_
  rintro e w16 ⟨rfl, hb⟩
  have hb2 := HX.out.trans hb
  have HU := Lib.hid (HU.out.ext hb2)
  have HV := Lib.hid (HV.out.ext hb2)
  have HP := Lib.hid (HP.out.ext hb2)
  have HR := Lib.hid (HR.out.ext hb2)
  have HS := Lib.hid (HS.out.ext hb2)
  have HZ := Lib.hid (HZ.out.ext hb2)
  have HT := Lib.hid (HT.out.ext hb2)
  have HQ := Lib.hid (HQ.out.ext hb2)
  have HE := Lib.hid (HE.out.trans hb2)
  clear hb hb2 HL HX
  have HX := Lib.hid (show Ext w16 (w16.alloc (.cells #[.int .i64 0, .int .i64 1, .int .i64 3] 3)) from ((Ext.refl w16).alloc (.cells #[.int .i64 0, .int .i64 1, .int .i64 3] 3)))
  have HL := Lib.hid (show Reads (w16.alloc (.cells #[.int .i64 0, .int .i64 1, .int .i64 3] 3)) (.slice (some ⟨w16.heap.size, 0, none⟩) 3 3) [0, 1, 3] from Reads.new w16 [0, 1, 3] 3 _ rfl (by decide) _ rfl 3 3 rfl (by decide))
  go_wp2_with fail
  refine (wI _ _ _ _ (HR.out.ext HX.out) HL.out).mono ?_
  rintro e w17 ⟨rfl, hb⟩
  have hb2 := HX.out.trans hb
  have HU := Lib.hid (HU.out.ext hb2)
  have HV := Lib.hid (HV.out.ext hb2)
  have HP := Lib.hid (HP.out.ext hb2)
  have HR := Lib.hid (HR.out.ext hb2)
  have HS := Lib.hid (HS.out.ext hb2)
  have HZ := Lib.hid (HZ.out.ext hb2)
  have HT := Lib.hid (HT.out.ext hb2)
  have HQ := Lib.hid (HQ.out.ext hb2)
  have HE := Lib.hid (HE.out.trans hb2)
  clear hb hb2 HL HX
  have HX := Lib.hid (show Ext w17 (w17.alloc (.cells #[.int .i64 4, .int .i64 3, .int .i64 2] 3)) from ((Ext.refl w17).alloc (.cells #[.int .i64 4, .int .i64 3, .int .i64 2] 3)))
  have HL := Lib.hid (show Reads (w17.alloc (.cells #[.int .i64 4, .int .i64 3, .int .i64 2] 3)) (.slice (some ⟨w17.heap.size, 0, none⟩) 3 3) [4, 3, 2] from Reads.new w17 [4, 3, 2] 3 _ rfl (by decide) _ rfl 3 3 rfl (by decide))
  go_wp2_with fail
  refine (wI _ _ _ _ (HS.out.ext HX.out) HL.out).mono ?_
  rintro e w18 ⟨rfl, hb⟩
  have hb2 := HX.out.trans hb
  have HU := Lib.hid (HU.out.ext hb2)
  have HV := Lib.hid (HV.out.ext hb2)
  have HP := Lib.hid (HP.out.ext hb2)
  have HR := Lib.hid (HR.out.ext hb2)
  have HS := Lib.hid (HS.out.ext hb2)
  have HZ := Lib.hid (HZ.out.ext hb2)
  have HT := Lib.hid (HT.out.ext hb2)
  have HQ := Lib.hid (HQ.out.ext hb2)
  have HE := Lib.hid (HE.out.trans hb2)
  clear hb hb2 HL HX
  have HX := Lib.hid (show Ext w18 (w18.alloc (.cells #[.int .i64 3, .int .i64 1] 3)) from ((Ext.refl w18).alloc (.cells #[.int .i64 3, .int .i64 1] 3)))
  have HL := Lib.hid (show Reads (w18.alloc (.cells #[.int .i64 3, .int .i64 1] 3)) (.slice (some ⟨w18.heap.size, 0, none⟩) 2 2) [3, 1] from Reads.new w18 [3, 1] 3 _ rfl (by decide) _ rfl 2 2 rfl (by decide))
  go_wp2_with fail
  refine (wI _ _ _ _ (HZ.out.ext HX.out) HL.out).mono ?_
  rintro e w19 ⟨rfl, hb⟩
  have hb2 := HX.out.trans hb
  have HU := Lib.hid (HU.out.ext hb2)
  have HV := Lib.hid (HV.out.ext hb2)
  have HP := Lib.hid (HP.out.ext hb2)
  have HR := Lib.hid (HR.out.ext hb2)
  have HS := Lib.hid (HS.out.ext hb2)
  have HZ := Lib.hid (HZ.out.ext hb2)
  have HT := Lib.hid (HT.out.ext hb2)
  have HQ := Lib.hid (HQ.out.ext hb2)
  have HE := Lib.hid (HE.out.trans hb2)
  clear hb hb2 HL HX
  go_wp2
  go_ret
  exact ⟨rfl, HE.out⟩
end Go.Proofs.Ytclcippfodjfeaa
