/- Contracts of Owners. -/
import Derived.Test.YtlgdnbpboonhdaaM9
namespace Go.Proofs.Ytlgdnbpboonhdaa
open Go.RowKit
set_option linter.unusedVariables false
/-- The owners of a worn mark. -/
def ownersL (L x : Nat) (ms : List Nat) : List Nat := pickL 0 ms.length fun i => cb L x (ms[i]?.getD 0)
theorem ent60 (args : Array Value) (W : World) : (callFunc 60 args).run Try.prog W = .ok (.enter 60 args) W := by simp [callFunc, Try.func60, go_sem]; rfl
theorem owners1_60 (b r L x i m B : Nat) (ms : List Nat) (v : Value) (w : World) (hx : x < 1024) (hm : ms[i]? = some m) (hm2 : m < 1024)
    (hr : w.cell? ⟨r, 0, none⟩ = some (.pointer (some ⟨b, 0, none⟩))) (hw : w.cell? ⟨B, 0, none⟩ = some (.int .i64 (x : Int)))
    (h1 : w.cell? ⟨b, 1, none⟩ = some (.int .i64 (L : Int))) (h2 : w.cell? ⟨b, 2, none⟩ = some v) (hv : Reads w v (ints ms)) :
    Calls Try.prog 60 #[.int .i64 (i : Int), .pointer (some ⟨r, 0, none⟩), .pointer (some ⟨B, 0, none⟩)] w fun e w' => e = .returned (.bool (cb L x m)) ∧ Ext w w' := by
  have H := Lib.hid (canBe61 b L x i m ms v w hx hm hm2 h1 h2 hv)
  clear hm h1 h2 hv
  go_enter Try.func60, Try.ntmps60
  go_wp2_with fail
  refine H.out.mono ?_
  rintro e w' ⟨rfl, hb⟩
  have HB := Lib.hid hb; clear hb
  go_wp2
  go_ret
  exact ⟨rfl, HB.out⟩
set_option maxRecDepth 10000 in
theorem owners19_ok (S L x : Nat) (ms : List Nat) (v : Value) (w : World) (hv : Valid S L ms) (hr : Reads w v (ints ms)) (hx : x ≤ full S) :
    Calls Try.prog 19 #[.agg #[.int .i64 (S : Int), .int .i64 (L : Int), v], .int .i64 (x : Int)] w fun e w' => ∃ u, e = .returned (.tuple #[u, .int .i64 0]) ∧ Reads w' u (ints (ownersL L x ms)) ∧ Ext w w' := by
  obtain ⟨hl, a, cap, rfl⟩ := hr.shape
  rw [ints_length] at hr hl ⊢
  have hF := full_lt S hv.2.1
  have hi : inR 0 (full S : Int) [(x : Int)] = true := by simp [inR]; omega
  have HR := Lib.hid hr; clear hr
  have HV := Lib.hid hv; clear hv
  have P0 := Lib.hid ((OffAt.new w (.int .i64 S) (.int .i64 L) (.slice a ms.length cap) 24).ext ((Ext.refl _).alloc (.cells #[.int .i64 (x : Int)] 3)))
  have E0 := Lib.hid (((Ext.refl w).alloc (.cells #[.int .i64 S, .int .i64 L, .slice a ms.length cap] 24)).alloc (.cells #[.int .i64 (x : Int)] 3))
  have c0 : ((w.alloc (.cells #[.int .i64 S, .int .i64 L, .slice a ms.length cap] 24)).alloc (.cells #[.int .i64 (x : Int)] 3)).cell? ⟨w.heap.size + 1, 0, none⟩ = some (.int .i64 (x : Int)) := World.cell?_alloc_at _ _ _ _ (by simp)
  have C0 := Lib.hid c0; clear c0
  go_enter Try.func19, Try.ntmps19
  go_wp2_with fail
  generalize ((w.alloc (.cells #[.int .i64 S, .int .i64 L, .slice a ms.length cap] 24)).alloc (.cells #[.int .i64 (x : Int)] 3)) = W at *
  refine (open_ok S L ms _ _ [] _ HV.out (HR.out.ext E0.out) (Reads.nil _) rfl).mono ?_
  rintro e w' ⟨b, bt, rfl, hb1, hb2, hb3, ho, ht, hrow, hb⟩
  obtain ⟨g1, g2, g3⟩ := P0.out.ext hb
  have g4 := cell_ext hb C0.out
  have HO := Lib.hid ho
  have HB := Lib.hid hb; clear hb hrow ht ho
  go_wp2
  have hA := (Ext.refl w').alloc (.cells #[.pointer (some ⟨b, 0, none⟩)] 63)
  replace g1 := cell_ext hA g1
  replace g2 := cell_ext hA g2
  replace g3 := cell_ext hA g3
  replace g4 := cell_ext hA g4
  replace HO := Lib.hid (HO.out.ext hA)
  have g5 : (w'.alloc (.cells #[.pointer (some ⟨b, 0, none⟩)] 63)).cell? ⟨w'.heap.size, 0, none⟩ = some (.pointer (some ⟨b, 0, none⟩)) := World.cell?_alloc_at _ _ _ _ rfl
  replace HB := Lib.hid (HB.out.trans hA)
  have hz : w'.heap.size = w'.heap.size := rfl
  clear hA hz
  generalize (w'.alloc (.cells #[.pointer (some ⟨b, 0, none⟩)] 63)) = W2 at *
  have G5 := Lib.hid g5; clear g5
  have hS1 := HV.out.1
  have hS2 := HV.out.2.1
  go_region_held3 (fun X => X.cell? ⟨w.heap.size, 0, none⟩ = some (.int .i64 S) ∧ X.cell? ⟨w.heap.size, 1, none⟩ = some (.int .i64 L) ∧ X.cell? ⟨w.heap.size, 2, none⟩ = some (.slice a ms.length cap) ∧ X.cell? ⟨w.heap.size + 1, 0, none⟩ = some (.int .i64 x) ∧ Hid (Ext W2 X))
    (first | assumption | exact ⟨g1, g2, g3, g4, Ext.drew (Ext.refl _)⟩ | exact ⟨cell_ext (Ext.ofDrew hb) g1, cell_ext (Ext.ofDrew hb) g2, cell_ext (Ext.ofDrew hb) g3, cell_ext (Ext.ofDrew hb) g4, Ext.ofDrew hb⟩
            | (have hk := Ext.alloc (Ext.ofDrew hb) (.cells #[.int .i64 (x : Int)] 3); exact ⟨cell_ext hk g1, cell_ext hk g2, cell_ext hk g3, cell_ext hk g4, hk⟩)
            | (have hk := Ext.alloc (Ext.drew (Ext.refl W2)) (.cells #[.int .i64 (x : Int)] 3); exact ⟨cell_ext hk g1, cell_ext hk g2, cell_ext hk g3, cell_ext hk g4, hk⟩)
            | (have hk := Ext.trans (Ext.alloc (Ext.drew (Ext.refl W2)) (.cells #[.int .i64 (x : Int)] 3)) hb; exact ⟨cell_ext hk g1, cell_ext hk g2, cell_ext hk g3, cell_ext hk g4, hk⟩))
    (first | (go_at_call 58; refine (allStrokes_any _ _ _ _ hS1 hS2).mono ?_; rintro e w2 ⟨rfl, hb⟩)
            | (go_at_call 57; refine (within_any _ _ _ [(x : Int)] _ ?_).mono ?_; exact Reads.new _ [(x : Int)] _ _ (by simp) (by simp) _ rfl _ _ rfl; rintro e w3 ⟨rfl, rfl⟩)
            | (go_at_call 57; refine (within_any _ _ _ [(x : Int)] _ ?_).mono ?_; exact (Reads.new W2.drew [(x : Int)] 3 _ rfl (by simp) _ rfl _ _ rfl).ext hb; rintro e w3 ⟨rfl, rfl⟩))
  all_goals
    rename_i hk
    obtain ⟨k1, k2, k3, k4, k5⟩ := hk
    have hfin : ∀ W3, Ext W2 W3 → Calls Try.prog 59 #[.int .i64 0, .int .i64 ((ms.length : Int) - 1), .func (.func 60) #[] #[.pointer (some ⟨w'.heap.size, 0, none⟩), .pointer (some ⟨w.heap.size + 1, 0, none⟩)]] W3 fun e w4 => ∃ v, e = .returned v ∧ Reads w4 v (ints (ownersL L x ms)) ∧ Ext W3 w4 := by
      intro W3 hW3
      have := pick59 60 #[] #[.pointer (some ⟨w'.heap.size, 0, none⟩), .pointer (some ⟨w.heap.size + 1, 0, none⟩)] 0 ms.length ((ms.length : Int) - 1) (fun i => cb L x (ms[i]?.getD 0)) W3 (by omega) (by omega) (by have := HV.out.2.2.2.1; omega) ent60
        (fun i W4 hi hW4 => by
          obtain ⟨m, hm⟩ := get_some hi
          have he := hW3.trans hW4
          have h5 := HO.out.ext he
          have := owners1_60 b w'.heap.size L x i m (w.heap.size + 1) ms _ W4 (by omega) hm (HV.out.lt hm) (cell_ext he G5.out) (cell_ext he g4) h5.2.1 h5.2.2 (HR.out.ext (E0.out.trans (HB.out.trans he)))
          simpa [hm] using this)
      exact this
    have HFIN := Lib.hid (hfin _ k5.out)
    clear hfin hb
    have k6 := cell_ext k5.out G5.out
    obtain ⟨k7, k8, k9⟩ := HO.out.ext k5.out
    have hml := HV.out.2.2.2.1
    have HE := Lib.hid (E0.out.trans (HB.out.trans k5.out))
    clear k1 k2 k3 k4 g1 g2 g3 g4
    go_wp2_with fail
    refine HFIN.out.mono ?_
    rintro e w4 ⟨u, rfl, hru, hb4⟩
    have HRU := Lib.hid hru; have HB4 := Lib.hid (HE.out.trans hb4); clear hru hb4
    go_wp2
    go_ret2
    exact ⟨u, rfl, HRU.out, HB4.out⟩
set_option maxRecDepth 10000 in
theorem owners19_range (S L : Nat) x (ms : List Nat) (v : Value) (w : World) (hv : Valid S L ms) (hr : Reads w v (ints ms)) (hi : inR 0 (full S : Int) [x] = false) :
    Calls Try.prog 19 #[.agg #[.int .i64 (S : Int), .int .i64 (L : Int), v], .int .i64 x] w fun e w' => e = .returned (.tuple #[.slice none 0 0, .int .i64 3]) ∧ Ext w w' := by
  obtain ⟨hl, a, cap, rfl⟩ := hr.shape
  rw [ints_length] at hr hl ⊢
  have hF := full_lt S hv.2.1
  have HR := Lib.hid hr; clear hr
  have HV := Lib.hid hv; clear hv
  have P0 := Lib.hid ((OffAt.new w (.int .i64 S) (.int .i64 L) (.slice a ms.length cap) 24).ext ((Ext.refl _).alloc (.cells #[.int .i64 x] 3)))
  have E0 := Lib.hid (((Ext.refl w).alloc (.cells #[.int .i64 S, .int .i64 L, .slice a ms.length cap] 24)).alloc (.cells #[.int .i64 x] 3))
  have c0 : ((w.alloc (.cells #[.int .i64 S, .int .i64 L, .slice a ms.length cap] 24)).alloc (.cells #[.int .i64 x] 3)).cell? ⟨w.heap.size + 1, 0, none⟩ = some (.int .i64 x) := World.cell?_alloc_at _ _ _ _ (by simp)
  have C0 := Lib.hid c0; clear c0
  go_enter Try.func19, Try.ntmps19
  go_wp2_with fail
  generalize ((w.alloc (.cells #[.int .i64 S, .int .i64 L, .slice a ms.length cap] 24)).alloc (.cells #[.int .i64 x] 3)) = W at *
  refine (open_ok S L ms _ _ [] _ HV.out (HR.out.ext E0.out) (Reads.nil _) rfl).mono ?_
  rintro e w' ⟨b, bt, rfl, hb1, hb2, hb3, ho, ht, hrow, hb⟩
  obtain ⟨g1, g2, g3⟩ := P0.out.ext hb
  have g4 := cell_ext hb C0.out
  have HO := Lib.hid ho
  have HB := Lib.hid hb; clear hb hrow ht ho
  go_wp2
  have hA := (Ext.refl w').alloc (.cells #[.pointer (some ⟨b, 0, none⟩)] 63)
  replace g1 := cell_ext hA g1
  replace g2 := cell_ext hA g2
  replace g3 := cell_ext hA g3
  replace g4 := cell_ext hA g4
  replace HO := Lib.hid (HO.out.ext hA)
  have g5 : (w'.alloc (.cells #[.pointer (some ⟨b, 0, none⟩)] 63)).cell? ⟨w'.heap.size, 0, none⟩ = some (.pointer (some ⟨b, 0, none⟩)) := World.cell?_alloc_at _ _ _ _ rfl
  replace HB := Lib.hid (HB.out.trans hA)
  have hz : w'.heap.size = w'.heap.size := rfl
  clear hA hz
  generalize (w'.alloc (.cells #[.pointer (some ⟨b, 0, none⟩)] 63)) = W2 at *
  have G5 := Lib.hid g5; clear g5
  have hS1 := HV.out.1
  have hS2 := HV.out.2.1
  go_region_held3 (fun X => X.cell? ⟨w.heap.size, 0, none⟩ = some (.int .i64 S) ∧ X.cell? ⟨w.heap.size, 1, none⟩ = some (.int .i64 L) ∧ X.cell? ⟨w.heap.size, 2, none⟩ = some (.slice a ms.length cap) ∧ X.cell? ⟨w.heap.size + 1, 0, none⟩ = some (.int .i64 x) ∧ Hid (Ext W2 X))
    (first | assumption | exact ⟨g1, g2, g3, g4, Ext.drew (Ext.refl _)⟩ | exact ⟨cell_ext (Ext.ofDrew hb) g1, cell_ext (Ext.ofDrew hb) g2, cell_ext (Ext.ofDrew hb) g3, cell_ext (Ext.ofDrew hb) g4, Ext.ofDrew hb⟩
            | (have hk := Ext.alloc (Ext.ofDrew hb) (.cells #[.int .i64 x] 3); exact ⟨cell_ext hk g1, cell_ext hk g2, cell_ext hk g3, cell_ext hk g4, hk⟩)
            | (have hk := Ext.alloc (Ext.drew (Ext.refl W2)) (.cells #[.int .i64 x] 3); exact ⟨cell_ext hk g1, cell_ext hk g2, cell_ext hk g3, cell_ext hk g4, hk⟩)
            | (have hk := Ext.trans (Ext.alloc (Ext.drew (Ext.refl W2)) (.cells #[.int .i64 x] 3)) hb; exact ⟨cell_ext hk g1, cell_ext hk g2, cell_ext hk g3, cell_ext hk g4, hk⟩))
    (first | (go_at_call 58; refine (allStrokes_any _ _ _ _ hS1 hS2).mono ?_; rintro e w2 ⟨rfl, hb⟩)
            | (go_at_call 57; refine (within_any _ _ _ [x] _ ?_).mono ?_; exact Reads.new _ [x] _ _ (by simp) (by simp) _ rfl _ _ rfl; rintro e w3 ⟨rfl, rfl⟩)
            | (go_at_call 57; refine (within_any _ _ _ [x] _ ?_).mono ?_; exact (Reads.new W2.drew [x] 3 _ rfl (by simp) _ rfl _ _ rfl).ext hb; rintro e w3 ⟨rfl, rfl⟩))
  all_goals
    rename_i hk
    obtain ⟨k1, k2, k3, k4, k5⟩ := hk
    have HE := Lib.hid (E0.out.trans (HB.out.trans k5.out))
    clear k1 k2 k3 k4 g1 g2 g3 g4 hb
    go_wp2
    go_ret2
    exact ⟨rfl, HE.out⟩
theorem owners19_err (S L : Int) (x : Int) (xs : List Int) (v : Value) (w : World) (hr : Reads w v xs) (hc : chk S L xs ≠ 0) :
    Calls Try.prog 19 #[.agg #[.int .i64 S, .int .i64 L, v], .int .i64 x] w fun e w' => e = .returned (.tuple #[.slice none 0 0, .int .i64 (chk S L xs)]) ∧ Ext w w' := by
  obtain ⟨hl, a, cap, rfl⟩ := hr.shape
  have E0 := Lib.hid (((Ext.refl w).alloc (.cells #[.int .i64 S, .int .i64 L, .slice a xs.length cap] 24)).alloc (.cells #[.int .i64 x] 3))
  have H := Lib.hid (open_err S L xs _ (.slice none 0 0) _ (hr.ext E0.out) hc)
  clear hr
  obtain ⟨c, hc'⟩ : ∃ c, c = chk S L xs := ⟨_, rfl⟩
  rw [← hc'] at hc H ⊢
  have hd : (c != 0) = true := by simpa using hc
  clear hc hc'
  go_enter Try.func19, Try.ntmps19
  go_wp2_with fail
  refine H.out.mono ?_
  rintro e w' ⟨rfl, hb⟩
  have HB := Lib.hid (E0.out.trans hb); clear hb
  go_wp2
  go_ret2
  exact ⟨rfl, HB.out.trans ((Ext.refl _).alloc _)⟩
end Go.Proofs.Ytlgdnbpboonhdaa
