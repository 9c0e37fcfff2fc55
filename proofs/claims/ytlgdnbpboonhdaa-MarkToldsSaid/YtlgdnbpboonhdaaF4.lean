/- Families: fits and isFamily. -/
import Derived.Test.YtlgdnbpboonhdaaF3
namespace Go.Proofs.Ytlgdnbpboonhdaa
open Go.RowKit Go.Shelf Go.Maps
set_option linter.unusedVariables false
attribute [local go_sem] Oper.semAt_some
/-- A mark clashes with none of a family of marks before it. -/
def fitsB (g : Nat × Nat → Option Nat) (fam : List Nat) (i : Nat) : Bool := fam.all fun m => (g (m, i)).isNone
set_option maxRecDepth 100000 in
theorem fits103 (mb nn i : Nat) (p : Option Addr) (u v : Value) (fam : List Nat) (g : Nat × Nat → Option Nat) (w : World) (hm : ClMap w mb nn g) (hv : Reads w v (ints fam)) (hf : ∀ m ∈ fam, m < 1000) (hi : i < 1000) :
    Calls Try.prog 103 #[.agg #[.pointer p, u, .map (some mb)], v, .int .i64 (i : Int)] w fun e w' => e = .returned (.bool (fitsB g fam i)) ∧ Ext w w' := by
  obtain ⟨hl, a, cap, rfl⟩ := hv.shape
  rw [ints_length] at *
  have E0 := (Ext.refl w).alloc (.cells #[.pointer p, u, .map (some mb)] 93)
  have HE := Lib.hid E0; have HM := Lib.hid (hm.ext E0); have HR := Lib.hid (hv.ext E0); have HF := Lib.hid hf
  clear hm hv hf E0
  go_enter Try.func103, Try.ntmps103
  go_wp2
  go_loop [13] (fun j => ∃ k : Nat, k ≤ fam.length ∧ j = .int .i64 (k : Int) ∧ Hid (∀ k' m, k' < k → fam[k']? = some m → (g (m, i)).isNone = true)) (fun j => fam.length - (RowKit.intOf j).toNat)
  case atStart => exact ⟨0, Nat.zero_le _, rfl, fun k' m h => absurd h (Nat.not_lt_zero _)⟩
  case round =>
    obtain ⟨k, hk, rfl, hall⟩ := hrel
    by_cases hlt : k < fam.length
    · obtain ⟨m, hmk⟩ : ∃ m, fam[k]? = some m := ⟨_, List.getElem?_eq_getElem hlt⟩
      obtain ⟨b1, off, rfl, -, hcy⟩ := HR.out.atN hmk
      have hm1 := HF.out m (List.mem_of_getElem? hmk)
      obtain ⟨c, hlook, -⟩ := HM.out.look (m, i) ⟨hm1, hi⟩
      have hka : (0 : Int) ≤ (k : Int) := by omega
      have hkb : (k : Int) < (fam.length : Int) := by omega
      have HMK := Lib.hid hmk
      clear hmk
      dsimp only [kv] at hlook
      cases hg : (g (m, i)).isSome with
      | true =>
        rw [hg] at hlook
        have hno : fitsB g fam i = false := List.all_eq_false.2 ⟨m, List.mem_of_getElem? HMK.out, by cases h : g (m, i) <;> simp_all⟩
        have HNO := Lib.hid hno
        clear hno hg
        go_wp2
        go_ret
        rw [HNO.out]
        exact ⟨rfl, HE.out⟩
      | false =>
        rw [hg] at hlook
        have HG := Lib.hid hg
        clear hg
        go_wp2
        go_round
        case rel => exact ⟨k + 1, by omega, by go_num, fun k' m' h hm' => by
          rcases Nat.lt_succ_iff_lt_or_eq.1 h with h | h
          · exact hall.out k' m' h hm'
          · subst h
            rw [HMK.out] at hm'
            cases hm'
            simpa using HG.out⟩
        case measure => simp [RowKit.intOf]; omega
    · obtain rfl : k = fam.length := by omega
      have hyes : fitsB g fam i = true := List.all_eq_true.2 fun m hm => by
        obtain ⟨k', hk', rfl⟩ := List.getElem_of_mem hm
        exact hall.out k' _ hk' (List.getElem?_eq_getElem hk')
      have HY := Lib.hid hyes
      clear hyes
      go_wp2
      go_ret
      rw [HY.out]
      exact ⟨rfl, HE.out⟩
/-- A list of indexes is a family: each one is free, and clashes with none before it. -/
def famB (fi : List Nat) (g : Nat × Nat → Option Nat) (l : List Nat) : Bool := (List.range l.length).all fun k => decide (mAt l k ∈ fi) && fitsB g (l.take k) (mAt l k)
theorem Reads.take {W : World} {a : Option Addr} {n cap : Nat} {xs : List Int} (h : Reads W (.slice a n cap) xs) (k : Nat) (hk : k ≤ n) : Reads W (.slice a k cap) (xs.take k) := by
  obtain ⟨hl, a', cap', e, h⟩ := h
  cases e
  have hlen : (xs.take k).length = k := by simp; omega
  refine ⟨by omega, a, cap, by rw [hlen], ?_⟩
  rcases h with ⟨rfl, rfl⟩ | ⟨b, off, rfl, hc⟩
  · exact .inl ⟨rfl, by simp⟩
  · refine .inr ⟨b, off, rfl, fun i hi => ?_⟩
    rw [hlen] at hi
    rw [hc i (by omega), List.getElem?_take_of_lt hi]
set_option maxRecDepth 100000 in
set_option maxHeartbeats 1000000 in
theorem isFamily86 (mb nn : Nat) (p : Option Addr) (u v : Value) (fi l : List Nat) (g : Nat × Nat → Option Nat) (w : World) (hm : ClMap w mb nn g) (hu : Reads w u (ints fi)) (hv : Reads w v (ints l)) (hcap : CapOk v) (hf : ∀ m ∈ l, m < 1000) :
    Calls Try.prog 86 #[.agg #[.pointer p, u, .map (some mb)], v] w fun e w' => e = .returned (.bool (famB fi g l)) ∧ Ext w w' := by
  obtain ⟨hl, a, cap, rfl⟩ := hv.shape
  obtain ⟨hl2, a2, cap2, rfl⟩ := hu.shape
  have hcap2 := hcap.le
  clear hcap
  simp only [ints_length] at *
  have E0 := (Ext.refl w).alloc (.cells #[.pointer p, .slice a2 fi.length cap2, .map (some mb)] 93)
  have HE := Lib.hid E0; have HM := Lib.hid (hm.ext E0); have HR := Lib.hid (hv.ext E0); have HU := Lib.hid (hu.ext E0); have HF := Lib.hid hf
  have hB := heap_alloc_new w (.cells #[.pointer p, .slice a2 fi.length cap2, .map (some mb)] 93)
  have HB := Lib.hid hB
  clear hm hv hf E0 hu hB
  have hmix : Try.prog.follows .mixedOrders = true := by kernel_rfl
  go_enter Try.func86, Try.ntmps86
  go_wp2
  generalize w.alloc (.cells #[.pointer p, .slice a2 fi.length cap2, .map (some mb)] 93) = w1 at *
  go_loopw [9] (fun j wr => ∃ k : Nat, k ≤ l.length ∧ j = .int .i64 (k : Int) ∧ Hid (∀ k', k' < k → (decide (mAt l k' ∈ fi) && fitsB g (l.take k') (mAt l k')) = true) ∧ Hid (Ext w1 wr)) (fun j _ => l.length - (RowKit.intOf j).toNat)
  case atStart => exact ⟨0, Nat.zero_le _, rfl, fun k' h => absurd h (Nat.not_lt_zero _), Ext.refl _⟩
  case round =>
    obtain ⟨k, hk, rfl, hall, hE⟩ := hrel
    by_cases hlt : k < l.length
    · have hmk : l[k]? = some (mAt l k) := by simp [mAt, hlt]
      obtain ⟨b1, off, rfl, -, hcy0⟩ := HR.out.atN hmk
      have hcy := cell_ext hE.out hcy0
      have hm1 := HF.out _ (List.mem_of_getElem? hmk)
      have hka : (0 : Int) ≤ (k : Int) := by omega
      have hkb : (k : Int) < (l.length : Int) := by omega
      have hkc : (k : Int) ≤ (cap : Int) := by omega
      have hkn : (k : Int).toNat = k := by omega
      have hBr := block_ext hE.out HB.out
      have c0 : wr.cell? ⟨w.heap.size, 0, none⟩ = some (.pointer p) := by rw [cell_of_row _ _ _ _ _ _ hBr]; rfl
      have c1 : wr.cell? ⟨w.heap.size, 1, none⟩ = some (.slice a2 fi.length cap2) := by rw [cell_of_row _ _ _ _ _ _ hBr]; rfl
      have c2 : wr.cell? ⟨w.heap.size, 2, none⟩ = some (.map (some mb)) := by rw [cell_of_row _ _ _ _ _ _ hBr]; rfl
      clear hBr hcy0 hmk
      by_cases h1 : mAt l k ∈ fi
      · have H101 := fun X (hX : Ext w1 X) => contains101_nat (.slice a2 fi.length cap2) fi (mAt l k) true (by simp [h1]) X (HU.out.ext hX)
        obtain ⟨fb, hfb⟩ : ∃ fb, fb = fitsB g (l.take k) (mAt l k) := ⟨_, rfl⟩
        have H103 := fun X (hX : Ext w1 X) => fits103 mb nn (mAt l k) p (.slice a2 fi.length cap2) (.slice (some ⟨b1, off, none⟩) k cap) (l.take k) g X (HM.out.ext hX) (by
          have := (HR.out.ext hX).take k (by omega)
          rwa [show (ints l).take k = ints (l.take k) from by unfold ints; rw [List.map_take]] at this) (fun m hm => HF.out m (List.mem_of_mem_take hm)) hm1
        rw [← hfb] at H103
        have HH101 := Lib.hid H101; have HH103 := Lib.hid H103; have HFB := Lib.hid hfb; have H1 := Lib.hid h1
        clear H101 H103 hfb h1
        go_wp2
        go_region_held3 (fun X => X.cell? ⟨w.heap.size, 0, none⟩ = some (.pointer p) ∧ X.cell? ⟨w.heap.size, 1, none⟩ = some (.slice a2 fi.length cap2) ∧ X.cell? ⟨w.heap.size, 2, none⟩ = some (.map (some mb)) ∧ Hid (Ext w1 X))
          (first | assumption | exact ⟨c0, c1, c2, hE⟩ | exact ⟨c0, c1, c2, Ext.drew hE.out⟩ | exact ⟨cell_ext (Ext.ofDrew hb) c0, cell_ext (Ext.ofDrew hb) c1, cell_ext (Ext.ofDrew hb) c2, Ext.trans hE.out (Ext.ofDrew hb)⟩)
          (first | (go_at_call 101; refine (HH101.out _ (by first | exact hE.out | exact Ext.drew hE.out)).mono ?_; rintro e w2 ⟨rfl, rfl⟩)
                  | (go_at_call 103; refine (HH103.out _ (by first | exact hE.out | exact Ext.drew hE.out)).mono ?_; rintro e w2 ⟨rfl, hb⟩))
        all_goals
          have HE2 := Lib.hid (Ext.trans hE.out (Ext.ofDrew hb))
          clear hb
          cases fb with
          | true =>
            go_wp2
            go_roundw
            case rel => exact ⟨k + 1, by omega, by go_num, fun k' h => by
              rcases Nat.lt_succ_iff_lt_or_eq.1 h with h | h
              · exact hall.out k' h
              · subst h
                rw [← HFB.out]; simp [H1.out], HE2.out⟩
            case measure => simp [RowKit.intOf]; omega
          | false =>
            have hno : famB fi g l = false := List.all_eq_false.2 ⟨k, List.mem_range.2 hlt, by rw [← HFB.out]; simp⟩
            have HNO := Lib.hid hno; clear hno
            go_wp2
            go_ret
            rw [HNO.out]
            exact ⟨rfl, HE.out.trans HE2.out⟩
      · have H101 := contains101_nat (.slice a2 fi.length cap2) fi (mAt l k) false (by simp [h1])
        have HH := Lib.hid (fun X (hX : Ext w1 X) => (H101 X (HU.out.ext hX)).mono fun e w' h => (⟨h.1, h.2.symm⟩ : _ ∧ w' = X))
        have hno : famB fi g l = false := List.all_eq_false.2 ⟨k, List.mem_range.2 hlt, by simp [h1]⟩
        have HNO := Lib.hid hno; clear hno H101 h1
        have hEE := hE.out
        go_wp2
        go_quiet ((go_at_call 101; refine Calls.quiet_of_same (HH.out _ ?_); first | exact hEE | exact Ext.drew hEE | exact Ext.drewN hEE _))
        go_wp2
        go_ret
        rw [HNO.out]
        exact ⟨rfl, HE.out.trans (hE.out.drewN _)⟩
    · obtain rfl : k = l.length := by omega
      have hyes : famB fi g l = true := List.all_eq_true.2 fun k' hk' => hall.out k' (List.mem_range.1 hk')
      have HY := Lib.hid hyes; clear hyes
      go_wp2
      go_ret
      rw [HY.out]
      exact ⟨rfl, HE.out.trans hE.out⟩
end Go.Proofs.Ytlgdnbpboonhdaa
