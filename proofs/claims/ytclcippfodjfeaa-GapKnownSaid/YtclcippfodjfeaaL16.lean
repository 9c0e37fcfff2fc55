/- GapKnown, by its contract. -/
import Derived.Test.YtclcippfodjfeaaL2
namespace Go.Proofs.Ytclcippfodjfeaa
open Go.RowKit
set_option linter.unusedVariables false
set_option linter.unusedSimpArgs false
attribute [local go_sem] Oper.semAt_some
section
set_option maxRecDepth 100000
theorem k_19 : turnV rowH 2 [0, 1, 0, -1, 0, 1, 1, -1, -1] = (6, 0) := by kernel_rfl
theorem k_m0 : mostV rowH 0 = 0 := by kernel_rfl
theorem k_m1 : mostV rowH 1 = 4 := by kernel_rfl
theorem k_m3 : mostV rowH 3 = 9 := by kernel_rfl
theorem k_a0 : askE rowH 0 = 0 := by kernel_rfl
theorem k_a1 : askE rowH 1 = 0 := by kernel_rfl
theorem k_a3 : askE rowH 3 = 0 := by kernel_rfl
theorem k_few : (tab rowE).length = 2 := by kernel_rfl
theorem k_place : placeI rowE = [0, 0, 1, 0] := by kernel_rfl
theorem k_run : natI (longM rowE) = [0, 2] := by kernel_rfl
theorem k_38 : runsV rowH 1 [[0, 1, 3], [2, 5], [4, 6, 7], [8]] = (4, 0) := by kernel_rfl
theorem k_r1 : runE rowH [4, 6, 8] = 0 := by kernel_rfl
theorem k_r2 : runE rowH [2, 4] = 16 := by kernel_rfl
end
theorem k19 (v vt : Value) (W : World) (h : Reads W v rowH) (ht : Reads W vt [0, 1, 0, -1, 0, 1, 1, -1, -1]) : Calls Try.prog 19 #[v, .int .i64 2, vt] W fun e w' => e = .returned (.tuple #[.int .i64 6, .int .i64 0]) ∧ Ext W w' := by
  have := checkTurning19 v vt rowH _ 2 W h ht
  rwa [k_19] at this
theorem k23 (m x : Int) (ha : askE rowH m = 0) (hm : mostV rowH m = x) (v : Value) (W : World) (h : Reads W v rowH) : Calls Try.prog 23 #[v, .int .i64 m] W fun e w' => e = .returned (.tuple #[.int .i64 x, .int .i64 0]) ∧ Ext W w' := by
  have := most23 v rowH m W h
  rwa [ha, if_pos rfl, hm] at this
theorem k25 (v : Value) (W : World) (h : Reads W v rowE) : Calls Try.prog 25 #[v] W fun e w' => e = .returned (.tuple #[.int .i64 2, .int .i64 0]) ∧ Ext W w' := by
  have := fewest25 v rowE W h
  rw [v_chkE, if_pos rfl, k_few] at this
  exact this
theorem k31 (v : Value) (W : World) (h : Reads W v rowE) : Calls Try.prog 31 #[v] W fun e w' => ∃ a cap, e = .returned (.tuple #[.slice a 4 cap, .int .i64 0]) ∧ Reads w' (.slice a 4 cap) [0, 0, 1, 0] ∧ Ext W w' := by
  have := place31 v rowE W h
  rw [v_chkE, k_place] at this
  exact this.mono fun e w' ⟨h1, h2⟩ => by
    rcases h1 with ⟨h, -⟩ | ⟨-, b, hb, rfl, hr⟩
    · exact absurd rfl h
    · exact ⟨_, _, rfl, hr.reads (by decide) rfl (by decide), h2⟩
theorem k33 (v : Value) (W : World) (h : Reads W v rowE) : Calls Try.prog 33 #[v] W fun e w' => ∃ a cap, e = .returned (.tuple #[.slice a 2 cap, .int .i64 0]) ∧ Reads w' (.slice a 2 cap) [0, 2] ∧ Ext W w' := by
  have := run33 v rowE W h
  rw [v_chkE, k_run] at this
  exact list_of this
theorem k38 (v vl : Value) (W : World) (h : Reads W v rowH) (hl : ReadsL W vl [[0, 1, 3], [2, 5], [4, 6, 7], [8]]) : Calls Try.prog 38 #[v, .int .i64 1, vl] W fun e w' => e = .returned (.tuple #[.int .i64 4, .int .i64 0]) ∧ Ext W w' := by
  have := checkRuns38 v vl rowH 1 _ W h hl
  rwa [k_38] at this
theorem k27 (W : World) : Calls Try.prog 27 #[.slice none 0 0] W fun e w' => ∃ a cap, e = .returned (.tuple #[.slice a 0 cap, .int .i64 0]) ∧ Reads w' (.slice a 0 cap) [] ∧ Ext W w' := by
  have := shape27 (.slice none 0 0) [] W (Reads.nil W)
  rw [show chkR [] = 0 from rfl, show shapeI [] = [] from rfl] at this
  exact list_of this
theorem k35a (v vt : Value) (W : World) (h : Reads W v rowH) (ht : Reads W vt [4, 6, 8]) : Calls Try.prog 35 #[v, vt] W fun e w' => e = .returned (.int .i64 0) ∧ Ext W w' := by
  have := checkRun35 v vt rowH _ W h ht
  rwa [k_r1] at this
theorem k35b (v vt : Value) (W : World) (h : Reads W v rowH) (ht : Reads W vt [2, 4]) : Calls Try.prog 35 #[v, vt] W fun e w' => e = .returned (.int .i64 16) ∧ Ext W w' := by
  have := checkRun35 v vt rowH _ W h ht
  rwa [k_r2] at this
set_option maxRecDepth 100000 in
set_option maxHeartbeats 4000000 in
theorem known16 (w : World) : Calls Try.prog 16 #[] w fun e w' => e = .returned (.bool true) ∧ Ext w w' := by
  go_enter Try.func16, Try.ntmps16
  go_wp2_with fail
  refine (rows47 _).mono ?_
  rintro e w1 ⟨u, v, rfl, hu, hv, hb⟩
  obtain ⟨_, au, cu, rfl⟩ := hu.shape
  obtain ⟨_, av, cv, rfl⟩ := hv.shape
  have HU := Lib.hid (show Reads w1 (.slice au 9 cu) rowH from hu); have HV := Lib.hid (show Reads w1 (.slice av 4 cv) rowE from hv); have HE := Lib.hid hb
  clear hu hv hb
  rw [show rowH.length = 9 from rfl, show rowE.length = 4 from rfl]
  have HX := Lib.hid (show Ext w1 (w1.alloc (.cells #[.int .i64 0, .int .i64 1, .int .i64 0, .int .i64 (-1), .int .i64 0, .int .i64 1, .int .i64 1, .int .i64 (-1), .int .i64 (-1)] 3)) from ((Ext.refl w1).alloc (.cells #[.int .i64 0, .int .i64 1, .int .i64 0, .int .i64 (-1), .int .i64 0, .int .i64 1, .int .i64 1, .int .i64 (-1), .int .i64 (-1)] 3)))
  have HL := Lib.hid (show Reads (w1.alloc (.cells #[.int .i64 0, .int .i64 1, .int .i64 0, .int .i64 (-1), .int .i64 0, .int .i64 1, .int .i64 1, .int .i64 (-1), .int .i64 (-1)] 3)) (.slice (some ⟨w1.heap.size, 0, none⟩) 9 9) [0, 1, 0, -1, 0, 1, 1, -1, -1] from Reads.new w1 [0, 1, 0, -1, 0, 1, 1, -1, -1] 3 _ rfl (by decide) _ rfl 9 9 rfl (by decide))
  go_wp2_with fail
  refine (k19 _ _ _ (HU.out.ext HX.out) HL.out).mono ?_
  rintro e w2 ⟨rfl, hb⟩
  have hb2 := HX.out.trans hb
  have HU := Lib.hid (HU.out.ext hb2)
  have HV := Lib.hid (HV.out.ext hb2)
  have HE := Lib.hid (HE.out.trans hb2)
  clear hb hb2 HL HX
  go_wp2_with fail
  refine (k23 _ _ k_a0 k_m0 _ _ HU.out).mono ?_
  rintro e w3 ⟨rfl, hb⟩
  have HU := Lib.hid (HU.out.ext hb)
  have HV := Lib.hid (HV.out.ext hb)
  have HE := Lib.hid (HE.out.trans hb)
  clear hb
  go_wp2_with fail
  refine (k23 _ _ k_a1 k_m1 _ _ HU.out).mono ?_
  rintro e w4 ⟨rfl, hb⟩
  have HU := Lib.hid (HU.out.ext hb)
  have HV := Lib.hid (HV.out.ext hb)
  have HE := Lib.hid (HE.out.trans hb)
  clear hb
  go_wp2_with fail
  refine (k23 _ _ k_a3 k_m3 _ _ HU.out).mono ?_
  rintro e w5 ⟨rfl, hb⟩
  have HU := Lib.hid (HU.out.ext hb)
  have HV := Lib.hid (HV.out.ext hb)
  have HE := Lib.hid (HE.out.trans hb)
  clear hb
  go_wp2_with fail
  refine (k25 _ _ HV.out).mono ?_
  rintro e w6 ⟨rfl, hb⟩
  have HU := Lib.hid (HU.out.ext hb)
  have HV := Lib.hid (HV.out.ext hb)
  have HE := Lib.hid (HE.out.trans hb)
  clear hb
  go_wp2_with fail
  refine (k31 _ _ HV.out).mono ?_
  rintro e w7 ⟨ap, cp, rfl, hp, hb⟩
  have HU := Lib.hid (HU.out.ext hb)
  have HV := Lib.hid (HV.out.ext hb)
  have HE := Lib.hid (HE.out.trans hb)
  have HP := Lib.hid hp
  clear hb hp
  go_wp2_with fail
  refine (k33 _ _ HV.out).mono ?_
  rintro e w8 ⟨ar, cr, rfl, hr, hb⟩
  have HU := Lib.hid (HU.out.ext hb)
  have HV := Lib.hid (HV.out.ext hb)
  have HP := Lib.hid (HP.out.ext hb)
  have HE := Lib.hid (HE.out.trans hb)
  have HR := Lib.hid hr
  clear hb hr
  have HX := Lib.hid (show Ext w8 (((((w8.alloc (.cells #[.int .i64 0, .int .i64 1, .int .i64 3] 3)).alloc (.cells #[.int .i64 2, .int .i64 5] 3)).alloc (.cells #[.int .i64 4, .int .i64 6, .int .i64 7] 3)).alloc (.cells #[.int .i64 8] 3)).alloc (.cells #[.slice (some ⟨w8.heap.size, 0, none⟩) 3 3, .slice (some ⟨w8.heap.size + 1, 0, none⟩) 2 2, .slice (some ⟨w8.heap.size + 1 + 1, 0, none⟩) 3 3, .slice (some ⟨w8.heap.size + 1 + 1 + 1, 0, none⟩) 1 1] 23)) from ((((((Ext.refl w8).alloc (.cells #[.int .i64 0, .int .i64 1, .int .i64 3] 3)).alloc (.cells #[.int .i64 2, .int .i64 5] 3)).alloc (.cells #[.int .i64 4, .int .i64 6, .int .i64 7] 3)).alloc (.cells #[.int .i64 8] 3)).alloc (.cells #[.slice (some ⟨w8.heap.size, 0, none⟩) 3 3, .slice (some ⟨w8.heap.size + 1, 0, none⟩) 2 2, .slice (some ⟨w8.heap.size + 1 + 1, 0, none⟩) 3 3, .slice (some ⟨w8.heap.size + 1 + 1 + 1, 0, none⟩) 1 1] 23)))
  have HL := Lib.hid (show ReadsL (((((w8.alloc (.cells #[.int .i64 0, .int .i64 1, .int .i64 3] 3)).alloc (.cells #[.int .i64 2, .int .i64 5] 3)).alloc (.cells #[.int .i64 4, .int .i64 6, .int .i64 7] 3)).alloc (.cells #[.int .i64 8] 3)).alloc (.cells #[.slice (some ⟨w8.heap.size, 0, none⟩) 3 3, .slice (some ⟨w8.heap.size + 1, 0, none⟩) 2 2, .slice (some ⟨w8.heap.size + 1 + 1, 0, none⟩) 3 3, .slice (some ⟨w8.heap.size + 1 + 1 + 1, 0, none⟩) 1 1] 23)) (.slice (some ⟨w8.heap.size + 1 + 1 + 1 + 1, 0, none⟩) 4 4) [[0, 1, 3], [2, 5], [4, 6, 7], [8]] from by
    refine ReadsL.of (cs := [.slice (some ⟨w8.heap.size, 0, none⟩) 3 3, .slice (some ⟨w8.heap.size + 1, 0, none⟩) 2 2, .slice (some ⟨w8.heap.size + 1 + 1, 0, none⟩) 3 3, .slice (some ⟨w8.heap.size + 1 + 1 + 1, 0, none⟩) 1 1]) (by have := heap_alloc_new ((((w8.alloc (.cells #[.int .i64 0, .int .i64 1, .int .i64 3] 3)).alloc (.cells #[.int .i64 2, .int .i64 5] 3)).alloc (.cells #[.int .i64 4, .int .i64 6, .int .i64 7] 3)).alloc (.cells #[.int .i64 8] 3)) (.cells #[.slice (some ⟨w8.heap.size, 0, none⟩) 3 3, .slice (some ⟨w8.heap.size + 1, 0, none⟩) 2 2, .slice (some ⟨w8.heap.size + 1 + 1, 0, none⟩) 3 3, .slice (some ⟨w8.heap.size + 1 + 1 + 1, 0, none⟩) 1 1] 23); simpa using this) rfl (by decide) (fun i hi => ?_)
    match i, hi with
    | 0, _ => exact ⟨_, rfl, (Reads.new w8 [0, 1, 3] 3 (w8.heap.size) (by simp) (by decide) _ rfl 3 3 rfl (by decide)).ext (((((Ext.refl _).alloc _).alloc _).alloc _).alloc _)⟩
    | 1, _ => exact ⟨_, rfl, (Reads.new (w8.alloc (.cells #[.int .i64 0, .int .i64 1, .int .i64 3] 3)) [2, 5] 3 (w8.heap.size + 1) (by simp) (by decide) _ rfl 2 2 rfl (by decide)).ext ((((Ext.refl _).alloc _).alloc _).alloc _)⟩
    | 2, _ => exact ⟨_, rfl, (Reads.new ((w8.alloc (.cells #[.int .i64 0, .int .i64 1, .int .i64 3] 3)).alloc (.cells #[.int .i64 2, .int .i64 5] 3)) [4, 6, 7] 3 (w8.heap.size + 1 + 1) (by simp) (by decide) _ rfl 3 3 rfl (by decide)).ext (((Ext.refl _).alloc _).alloc _)⟩
    | 3, _ => exact ⟨_, rfl, (Reads.new (((w8.alloc (.cells #[.int .i64 0, .int .i64 1, .int .i64 3] 3)).alloc (.cells #[.int .i64 2, .int .i64 5] 3)).alloc (.cells #[.int .i64 4, .int .i64 6, .int .i64 7] 3)) [8] 3 (w8.heap.size + 1 + 1 + 1) (by simp) (by decide) _ rfl 1 1 rfl (by decide)).ext ((Ext.refl _).alloc _)⟩)
  go_wp2_with fail
  refine (k38 _ _ _ (HU.out.ext HX.out) HL.out).mono ?_
  rintro e w9 ⟨rfl, hb⟩
  have hb2 := HX.out.trans hb
  have HU := Lib.hid (HU.out.ext hb2)
  have HV := Lib.hid (HV.out.ext hb2)
  have HP := Lib.hid (HP.out.ext hb2)
  have HR := Lib.hid (HR.out.ext hb2)
  have HE := Lib.hid (HE.out.trans hb2)
  clear hb hb2 HL HX
  go_wp2_with fail
  refine (k27 _).mono ?_
  rintro e w10 ⟨a_s, c_s, rfl, hs, hb⟩
  have HU := Lib.hid (HU.out.ext hb)
  have HV := Lib.hid (HV.out.ext hb)
  have HP := Lib.hid (HP.out.ext hb)
  have HR := Lib.hid (HR.out.ext hb)
  have HE := Lib.hid (HE.out.trans hb)
  clear hb hs
  have HX := Lib.hid (show Ext w10 (w10.alloc (.cells #[.int .i64 4, .int .i64 6, .int .i64 8] 3)) from ((Ext.refl w10).alloc (.cells #[.int .i64 4, .int .i64 6, .int .i64 8] 3)))
  have HL := Lib.hid (show Reads (w10.alloc (.cells #[.int .i64 4, .int .i64 6, .int .i64 8] 3)) (.slice (some ⟨w10.heap.size, 0, none⟩) 3 3) [4, 6, 8] from Reads.new w10 [4, 6, 8] 3 _ rfl (by decide) _ rfl 3 3 rfl (by decide))
  go_wp2_with fail
  refine (k35a _ _ _ (HU.out.ext HX.out) HL.out).mono ?_
  rintro e w11 ⟨rfl, hb⟩
  have hb2 := HX.out.trans hb
  have HU := Lib.hid (HU.out.ext hb2)
  have HV := Lib.hid (HV.out.ext hb2)
  have HP := Lib.hid (HP.out.ext hb2)
  have HR := Lib.hid (HR.out.ext hb2)
  have HE := Lib.hid (HE.out.trans hb2)
  clear hb hb2 HL HX
  have HX := Lib.hid (show Ext w11 (w11.alloc (.cells #[.int .i64 2, .int .i64 4] 3)) from ((Ext.refl w11).alloc (.cells #[.int .i64 2, .int .i64 4] 3)))
  have HL := Lib.hid (show Reads (w11.alloc (.cells #[.int .i64 2, .int .i64 4] 3)) (.slice (some ⟨w11.heap.size, 0, none⟩) 2 2) [2, 4] from Reads.new w11 [2, 4] 3 _ rfl (by decide) _ rfl 2 2 rfl (by decide))
  go_wp2_with fail
  refine (k35b _ _ _ (HU.out.ext HX.out) HL.out).mono ?_
  rintro e w12 ⟨rfl, hb⟩
  have hb2 := HX.out.trans hb
  have HU := Lib.hid (HU.out.ext hb2)
  have HV := Lib.hid (HV.out.ext hb2)
  have HP := Lib.hid (HP.out.ext hb2)
  have HR := Lib.hid (HR.out.ext hb2)
  have HE := Lib.hid (HE.out.trans hb2)
  clear hb hb2 HL HX
  have HX := Lib.hid (show Ext w12 (w12.alloc (.cells #[.int .i64 0, .int .i64 0, .int .i64 1, .int .i64 0] 3)) from ((Ext.refl w12).alloc (.cells #[.int .i64 0, .int .i64 0, .int .i64 1, .int .i64 0] 3)))
  have HL := Lib.hid (show Reads (w12.alloc (.cells #[.int .i64 0, .int .i64 0, .int .i64 1, .int .i64 0] 3)) (.slice (some ⟨w12.heap.size, 0, none⟩) 4 4) [0, 0, 1, 0] from Reads.new w12 [0, 0, 1, 0] 3 _ rfl (by decide) _ rfl 4 4 rfl (by decide))
  go_wp2_with fail
  refine (wI _ _ _ _ (HP.out.ext HX.out) HL.out).mono ?_
  rintro e w13 ⟨rfl, hb⟩
  have hb2 := HX.out.trans hb
  have HU := Lib.hid (HU.out.ext hb2)
  have HV := Lib.hid (HV.out.ext hb2)
  have HP := Lib.hid (HP.out.ext hb2)
  have HR := Lib.hid (HR.out.ext hb2)
  have HE := Lib.hid (HE.out.trans hb2)
  clear hb hb2 HL HX
  have HX := Lib.hid (show Ext w13 (w13.alloc (.cells #[.int .i64 0, .int .i64 2] 3)) from ((Ext.refl w13).alloc (.cells #[.int .i64 0, .int .i64 2] 3)))
  have HL := Lib.hid (show Reads (w13.alloc (.cells #[.int .i64 0, .int .i64 2] 3)) (.slice (some ⟨w13.heap.size, 0, none⟩) 2 2) [0, 2] from Reads.new w13 [0, 2] 3 _ rfl (by decide) _ rfl 2 2 rfl (by decide))
  go_wp2_with fail
  refine (wI _ _ _ _ (HR.out.ext HX.out) HL.out).mono ?_
  rintro e w14 ⟨rfl, hb⟩
  have hb2 := HX.out.trans hb
  have HU := Lib.hid (HU.out.ext hb2)
  have HV := Lib.hid (HV.out.ext hb2)
  have HP := Lib.hid (HP.out.ext hb2)
  have HR := Lib.hid (HR.out.ext hb2)
  have HE := Lib.hid (HE.out.trans hb2)
  clear hb hb2 HL HX
  go_wp2_with fail
  refine (works18 _).mono ?_
  rintro e w99 ⟨rfl, hb⟩
  have HE := Lib.hid (HE.out.trans hb)
  clear hb
  go_wp2
  go_ret
  exact ⟨rfl, HE.out⟩
end Go.Proofs.Ytclcippfodjfeaa
