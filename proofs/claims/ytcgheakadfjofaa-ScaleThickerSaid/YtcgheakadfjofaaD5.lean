/- The reference's CheckCut. -/
import Derived.Test.YtcgheakadfjofaaD3
import Derived.Test.YtcgheakadfjofaaC3
import Derived.Test.YtcgheakadfjofaaC7
import Derived.Deep.RegionHeld3
import Derived.BigQuiet
import Derived.Deep.QuietTactic
namespace Go.Proofs.Ytcgheakadfjofaa
open Go.RowKit Go.Shelf
set_option linter.unusedVariables false
set_option linter.unusedSimpArgs false
attribute [local go_sem] Oper.semAt_some
set_option maxRecDepth 100000 in
set_option maxHeartbeats 8000000 in
theorem refcut25 (vt vb vl : Value) (th bd : List Int) (r : Rl) (ls : List (Int × Int)) (w : World) (ht : Reads w vt th) (hd : Reads w vb bd) (hls : ReadsLg w vl ls) :
    Calls Try.prog 25 #[.agg #[vt, vb], r.val, vl] w fun e w' => e = .returned (.tuple #[.int .i64 (cutE th bd r ls).1, .int .i64 (cutE th bd r ls).2]) ∧ Ext w w' := by
  obtain ⟨hl, a, cap, rfl⟩ := ht.shape
  obtain ⟨hl2, a2, cap2, rfl⟩ := hls.shape
  obtain ⟨n, hn⟩ : ∃ n, n = th.length := ⟨_, rfl⟩
  obtain ⟨n2, hn2⟩ : ∃ n2, n2 = ls.length := ⟨_, rfl⟩
  rw [← hn] at ht hl ⊢
  rw [← hn2] at hls hl2 ⊢
  have E0 := Lib.hid (Ext.alloc (Ext.alloc (Ext.refl w) (.cells #[.slice a n cap, vb] 25)) (.cells #[.int .i64 r.lo, .int .i64 r.hi, .int .i64 r.st, .int .i64 r.tr, .int .i64 r.off, .int .i64 r.dv, .int .i64 r.tn] 27))
  have P0 := Lib.hid ((StemAt.new w (.slice a n cap) (vb) 25).ext (Ext.alloc (Ext.refl _) (.cells #[.int .i64 r.lo, .int .i64 r.hi, .int .i64 r.st, .int .i64 r.tr, .int .i64 r.off, .int .i64 r.dv, .int .i64 r.tn] 27)))
  have R0 := RuleAt.new (w.alloc (.cells #[.slice a n cap, vb] 25)) r 27
  rw [World.size_alloc] at R0
  have R0 := Lib.hid R0
  have H53 := Lib.hid (fun (W : World) (h : Ext w W) => refcheck53 _ _ th bd r W (ht.ext h) (hd.ext h))
  have H54 := Lib.hid (fun (W : World) (h : Ext w W) (i j : Int) => islog54 _ vb th i j W (ht.ext h))
  have hok : bothE th bd r = 0 → Vw th bd r := fun h => by
    obtain ⟨h1, h2⟩ := bothE_ok.1 h
    exact h1.weak h2
  have H45 := Lib.hid (show ∀ (W : World), Ext w W → Vw th bd r → ∀ i j, lieB th i j = true → Calls Try.prog 45 #[.agg #[.slice a n cap, vb], r.val, .int .i64 i, .int .i64 j] W fun e w' => e = .returned (.int .i64 (scl th bd r i j)) ∧ Ext W w' from fun W h hv i j hli => by
    have h1 : 0 ≤ i ∧ i < j ∧ j ≤ (th.length : Int) - 1 := lieB_iff.1 hli
    obtain ⟨i', rfl⟩ := Int.eq_ofNat_of_zero_le h1.1
    obtain ⟨j', rfl⟩ := Int.eq_ofNat_of_zero_le (show 0 ≤ j by omega)
    exact refscale45 _ _ th bd r i' j' W (ht.ext h) (hd.ext h) hv (by omega) (by omega))
  have hE := show cutE th bd r ls = if bothE th bd r ≠ 0 then (0, bothE th bd r) else if 60 < ls.length then (0, 6)
    else if (ls.all fun p => lieB th p.1 p.2) = false then (0, 2) else if oneB ls = false then (0, 16)
    else if (ls.any fun p => decide (scl th bd r p.1 p.2 = 0)) = true then (0, 18) else ((ls.map fun p => scl th bd r p.1 p.2).sum, 0) from rfl
  generalize cutE th bd r ls = fe at *
  generalize bothE th bd r = BE at *
  rw [← hn2] at hE
  have HOK := Lib.hid hok; have HN := Lib.hid hn; have HLS := Lib.hid hls; have HN2 := Lib.hid hn2
  have HE := Lib.hid hE
  clear hok ht hd hn hls hn2 hE
  have ⟨g1, g2⟩ := P0.out
  have ⟨r0, r1, r2, r3, r4, r5, r6⟩ := R0.out
  go_enter Try.func25, Try.ntmps25
  go_wp2_with fail
  refine (H53.out _ E0.out).mono ?_
  rintro e w1 ⟨rfl, hb⟩
  have E2 := Lib.hid (E0.out.trans hb)
  have HB1 := Lib.hid hb
  clear hb g1 g2 r0 r1 r2 r3 r4 r5 r6
  by_cases hbe : BE = 0
  case neg =>
    have hbn : (BE != 0) = true := by simpa using hbe
    have hre := Lib.hid (show fe = (0, BE) from by rw [HE.out, if_pos hbe])
    have ⟨g1, g2⟩ := P0.out.ext (HB1.out)
    have ⟨r0, r1, r2, r3, r4, r5, r6⟩ := R0.out.ext (HB1.out)
    clear hbe HE
    go_wp2_with fail
    refine (H53.out _ E2.out).mono ?_
    rintro e w2 ⟨rfl, hb⟩
    have E3 := Lib.hid (E2.out.trans hb)
    clear hb
    go_wp2
    go_ret2
    exact ⟨by rw [hre.out]; rfl, E3.out⟩
  have hbn : (BE != 0) = false := by simpa using hbe
  have hv := HOK.out hbe
  have HE0 := Lib.hid (show fe = if 60 < n2 then (0, 6)
    else if (ls.all fun p => lieB th p.1 p.2) = false then (0, 2) else if oneB ls = false then (0, 16)
    else if (ls.any fun p => decide (scl th bd r p.1 p.2 = 0)) = true then (0, 18) else ((ls.map fun p => scl th bd r p.1 p.2).sum, 0) from by rw [HE.out, if_neg (by simpa using hbe)])
  clear hbe HOK HE H53
  by_cases hm : 60 < n2
  · have hm1 : decide ((60 : Int) < (n2 : Int)) = true := by simp; omega
    have hre := Lib.hid (show fe = (0, 6) from by rw [HE0.out, if_pos hm])
    clear HE0
    go_wp2
    go_ret2
    exact ⟨by rw [hre.out]; rfl, E2.out⟩
  have hm1 : decide ((60 : Int) < (n2 : Int)) = false := by simp; omega
  have HE1 := Lib.hid (show fe = if (ls.all fun p => lieB th p.1 p.2) = false then (0, 2) else if oneB ls = false then (0, 16)
    else if (ls.any fun p => decide (scl th bd r p.1 p.2 = 0)) = true then (0, 18) else ((ls.map fun p => scl th bd r p.1 p.2).sum, 0) from by rw [HE0.out, if_neg hm])
  clear HE0
  have H45v := Lib.hid (fun W h i j => H45.out W h hv i j)
  have HV := Lib.hid hv
  have HL1 := Lib.hid (HLS.out.ext E2.out)
  have hn5 : n2 ≤ 60 := by omega
  clear hv hm H45
  go_wp2_with fail
  go_loopw [8] (fun i wr => ∃ k : Nat, k ≤ n2 ∧ i = .int .i64 (k : Int) ∧ Hid (Ext w1 wr) ∧ Hid ((ls.take k).all (fun p => lieB th p.1 p.2) = true)) (fun i wr => n2 - (intOf i).toNat)
  case atStart => exact ⟨0, Nat.zero_le _, rfl, Lib.hid (Ext.refl _), Lib.hid (by simp)⟩
  case round =>
    obtain ⟨k, hk, rfl, hE1, hI⟩ := hrel
    by_cases hlt : k < n2
    · obtain ⟨b2, off, p, rfl, hp, c1, c2⟩ := (HL1.out.ext hE1.out).at (show k < ls.length by rw [← HN2.out]; exact hlt)
      obtain ⟨i, j⟩ := p
      have HP := Lib.hid hp
      clear hp
      simp only at c1 c2
      have hka : (0 : Int) ≤ (k : Int) := by omega
      have hkb : (k : Int) < (n2 : Int) := by omega
      have ht2 : (k : Int).toNat = k := by omega
      have HT := Lib.hid (take_snoc HP.out)
      have ⟨g1, g2⟩ := P0.out.ext (HB1.out.trans hE1.out)
      have EW := Lib.hid (E2.out.trans hE1.out)
      have h54 := Lib.hid (fun W h => H54.out W h i j)
      have HKP := Lib.hid (show ∀ X X' : World, (fun X => X.cell? ⟨w.heap.size, 0, none⟩ = some (.slice a n cap) ∧ X.cell? ⟨w.heap.size, 1, none⟩ = some (vb) ∧ X.cell? ⟨b2, off + k * 2, none⟩ = some (.int .i64 i) ∧ X.cell? ⟨b2, off + k * 2 + 1, none⟩ = some (.int .i64 j) ∧ Hid (Ext wr X)) X → Ext X X' → (fun X => X.cell? ⟨w.heap.size, 0, none⟩ = some (.slice a n cap) ∧ X.cell? ⟨w.heap.size, 1, none⟩ = some (vb) ∧ X.cell? ⟨b2, off + k * 2, none⟩ = some (.int .i64 i) ∧ X.cell? ⟨b2, off + k * 2 + 1, none⟩ = some (.int .i64 j) ∧ Hid (Ext wr X)) X' from fun X X' h hb => ⟨cell_ext hb h.1, cell_ext hb h.2.1, cell_ext hb h.2.2.1, cell_ext hb h.2.2.2.1, Lib.hid (Ext.trans h.2.2.2.2.out hb)⟩)
      cases hli : lieB th i j
      all_goals
        rw [hli] at h54
        have HLI := Lib.hid hli
        clear hli
        go_wp2
        go_region_held3 (fun X => X.cell? ⟨w.heap.size, 0, none⟩ = some (.slice a n cap) ∧ X.cell? ⟨w.heap.size, 1, none⟩ = some (vb) ∧ X.cell? ⟨b2, off + k * 2, none⟩ = some (.int .i64 i) ∧ X.cell? ⟨b2, off + k * 2 + 1, none⟩ = some (.int .i64 j) ∧ Hid (Ext wr X))
          (first | assumption | exact ⟨g1, g2, c1, c2, Lib.hid (Ext.refl wr).drew⟩ | exact HKP.out _ _ (by assumption) hb | fail)
          (first | (go_at_call 54; refine (h54.out _ (EW.out.trans (of_and5 (by assumption)))).mono ?_; rintro e w' ⟨rfl, hb⟩) | fail)
      · have hK := Lib.hid (hE1.out.trans (of_and5 (by assumption)))
        have hre := Lib.hid (show fe = (0, 2) from by
          rw [HE1.out, if_pos]
          cases hq : ls.all fun p => lieB th p.1 p.2 with
          | false => rfl
          | true =>
            have h1 := List.all_eq_true.1 hq (i, j) (List.mem_of_getElem? HP.out)
            rw [HLI.out] at h1; cases h1)
        clear HE1
        go_wp2
        go_ret2
        exact ⟨by rw [hre.out]; rfl, E2.out.trans hK.out⟩
      · have hK := Lib.hid (hE1.out.trans (of_and5 (by assumption)))
        have hA := Lib.hid (show (ls.take (k + 1)).all (fun p => lieB th p.1 p.2) = true from by rw [HT.out, List.all_append, hI.out]; simp [HLI.out])
        go_wp2
        go_roundw
        case rel => exact ⟨k + 1, by omega, by go_num, hK, hA⟩
        case measure => simp [intOf]; omega
    · have hkb : ¬ (k : Int) < (n2 : Int) := by omega
      have HA := Lib.hid (show (ls.all fun p => lieB th p.1 p.2) = true from by
        have h1 := hI.out
        rw [List.take_of_length_le (by rw [← HN2.out]; omega)] at h1
        exact h1)
      have HE2 := Lib.hid (show fe = if oneB ls = false then (0, 16)
        else if (ls.any fun p => decide (scl th bd r p.1 p.2 = 0)) = true then (0, 18) else ((ls.map fun p => scl th bd r p.1 p.2).sum, 0) from by rw [HE1.out, if_neg (by rw [HA.out]; simp)])
      clear HE1 hI H54
      go_wp2_with fail
      go_loopw [9] (fun i wr => ∃ k : Nat, (k + 1 ≤ n2 ∨ k = 0) ∧ i = .int .i64 ((k : Int) + 1) ∧ Hid (oneB (ls.take (k + 1)) = true) ∧ Hid (Ext w1 wr)) (fun i wr => n2 + 1 - (intOf i).toNat)
      case atStart => exact ⟨0, .inr rfl, rfl, Lib.hid (by cases ls <;> simp [oneB]), hE1⟩
      case round =>
        clear hE1
        obtain ⟨k, hk, rfl, hI, hE⟩ := hrel
        by_cases hlt : k + 1 < n2
        · obtain ⟨b, off, y, rfl, hy, hcy, -⟩ := (HL1.out.ext hE.out).at (show k + 1 < ls.length by rw [← HN2.out]; exact hlt)
          obtain ⟨b', off', x, hbx, hx, -, hcx⟩ := (HL1.out.ext hE.out).at (show k < ls.length by rw [← HN2.out]; omega)
          cases hbx
          have hs := one_take_succ ls k x y hx hy
          rw [hI.out, Bool.true_and] at hs
          have HS := Lib.hid hs
          clear hx hy hs
          obtain ⟨x1, x2⟩ := x
          obtain ⟨y1, y2⟩ := y
          have hka : (0 : Int) ≤ (k : Int) + 1 := by omega
          have hkb : (k : Int) + 1 < (n2 : Int) := by omega
          have hkc : (0 : Int) ≤ (k : Int) := by omega
          have hkd : (k : Int) < (n2 : Int) := by omega
          have hw1 : IntKind.i64.wrap ((k : Int) + 1 - 1) = (k : Int) := by rw [show (k : Int) + 1 - 1 = k from by omega]; exact wrapi64 _ (by omega) (by omega)
          have hw2 : IntKind.i64.wrap ((k : Int) + 1 + 1) = (k : Int) + 1 + 1 := wrapi64 _ (by omega) (by omega)
          have ht : ((k : Int) + 1).toNat = k + 1 := by omega
          have ht2 : (k : Int).toNat = k := by omega
          simp only at hcx hcy HS
          by_cases hxy : y1 < x2
          · have hd : decide (y1 < x2) = true := decide_eq_true hxy
            have hre := Lib.hid (show fe = (0, 16) from by
              rw [HE2.out, if_pos]
              cases e : oneB ls with
              | false => rfl
              | true =>
                have h1 := one_prefix ls (k + 2) e
                rw [HS.out] at h1
                simp at h1; omega)
            clear HE2
            go_wp2
            go_quiet (fail)
            go_wp2
            go_ret2
            exact ⟨by rw [hre.out]; rfl, (E2.out.trans hE.out).drewN _⟩
          · have hd : decide (y1 < x2) = false := decide_eq_false hxy
            have HS2 := Lib.hid (show oneB (ls.take (k + 1 + 1)) = true from by rw [show k + 1 + 1 = k + 2 from rfl, HS.out]; simp; omega)
            go_wp2
            go_quiet (fail)
            go_wp2
            go_roundw
            case rel => exact ⟨k + 1, .inl (by omega), by go_num, HS2, Lib.hid (hE.out.drewN _)⟩
            case measure => simp [intOf]; omega
        · have hkb : ¬ (k : Int) + 1 < (n2 : Int) := by omega
          have HO := Lib.hid (show oneB ls = true from by
            have h1 := hI.out
            rw [List.take_of_length_le (by rw [← HN2.out]; omega)] at h1
            exact h1)
          have HE3 := Lib.hid (show fe = if (ls.any fun p => decide (scl th bd r p.1 p.2 = 0)) = true then (0, 18) else ((ls.map fun p => scl th bd r p.1 p.2).sum, 0) from by rw [HE2.out, if_neg (by rw [HO.out]; simp)])
          have HBD := Lib.hid (show ∀ k, k ≤ n2 → 0 ≤ ((ls.take k).map fun p => scl th bd r p.1 p.2).sum ∧ ((ls.take k).map fun p => scl th bd r p.1 p.2).sum ≤ 216000 * (k : Int) from by
            intro k
            induction k with
            | zero => intro _; simp
            | succ k ih =>
              intro hk
              obtain ⟨p, hp⟩ := get_some (show k < ls.length by rw [← HN2.out]; omega)
              have := ih (by omega)
              have hli := List.all_eq_true.1 HA.out p (List.mem_of_getElem? hp)
              have h1 : 0 ≤ p.1 ∧ p.1 < p.2 ∧ p.2 ≤ (th.length : Int) - 1 := lieB_iff.1 hli
              have h2 := sF_le HV.out p.1.toNat p.2.toNat
              unfold sF at h2
              rw [Int.toNat_of_nonneg h1.1, Int.toNat_of_nonneg (by omega)] at h2
              have h3 := scl_nn HV.out p.1 p.2
              rw [take_snoc hp]
              simp only [List.map_append, List.sum_append, List.map_cons, List.map_nil, List.sum_cons, List.sum_nil]
              omega)
          clear HE2 hI hk
          go_wp2_with fail
          go_loopw [10, 11] (fun s i wr => ∃ k : Nat, ∃ S : Int, k ≤ n2 ∧ i = .int .i64 (k : Int) ∧ s = .int .i64 S ∧ Hid (Ext w1 wr) ∧ Hid (S = ((ls.take k).map fun p => scl th bd r p.1 p.2).sum) ∧ Hid ((ls.take k).any (fun p => decide (scl th bd r p.1 p.2 = 0)) = false)) (fun s i wr => n2 - (intOf i).toNat)
          case atStart => exact ⟨0, 0, Nat.zero_le _, rfl, rfl, hE, Lib.hid (by simp), Lib.hid (by simp)⟩
          case round =>
            clear hE
            obtain ⟨k, S, hk, rfl, rfl, hE1, hS, hI⟩ := hrel
            by_cases hlt : k < n2
            · obtain ⟨b2, off, p, rfl, hp, c1, c2⟩ := (HL1.out.ext hE1.out).at (show k < ls.length by rw [← HN2.out]; exact hlt)
              obtain ⟨i, j⟩ := p
              have HP := Lib.hid hp
              have HT := Lib.hid (take_snoc hp)
              have hli := Lib.hid (List.all_eq_true.1 HA.out (i, j) (List.mem_of_getElem? hp))
              have hb0 := HBD.out k hk
              have hb1 := HBD.out (k + 1) (by omega)
              rw [HT.out] at hb1
              simp only [List.map_append, List.sum_append, List.map_cons, List.map_nil, List.sum_cons, List.sum_nil] at hb1
              rw [← hS.out] at hb0 hb1
              have hnn := scl_nn HV.out i j
              have hw : IntKind.i64.wrap (S + scl th bd r i j) = S + scl th bd r i j := wrapi64 _ (by omega) (by omega)
              have hkw : IntKind.i64.wrap ((k : Int) + 1) = (k : Int) + 1 := wrapi64 _ (by omega) (by omega)
              simp only at c1 c2
              have hka : (0 : Int) ≤ (k : Int) := by omega
              have hkb : (k : Int) < (n2 : Int) := by omega
              have ht2 : (k : Int).toNat = k := by omega
              have HQ := Lib.hid (show ((ls.take (k + 1)).map fun p => scl th bd r p.1 p.2).sum = S + scl th bd r i j from by
                rw [HT.out, List.map_append, List.sum_append, ← hS.out]; simp)
              have HR := Lib.hid (show ((ls.take (k + 1)).any fun p => decide (scl th bd r p.1 p.2 = 0)) = decide (scl th bd r i j = 0) from by
                rw [HT.out, List.any_append, hI.out]; simp)
              have EW := Lib.hid (E2.out.trans hE1.out)
              have h45 := Lib.hid (fun W h => H45v.out W h i j hli.out)
              have hfe0 := fun h0 : scl th bd r i j = 0 => (show fe = (0, 18) from by
                rw [HE3.out, if_pos]
                exact List.any_eq_true.2 ⟨(i, j), List.mem_of_getElem? HP.out, by simpa using h0⟩)
              have HFE0 := Lib.hid hfe0
              clear hS hI hp hb0 hb1 hfe0
              have ⟨g1, g2⟩ := P0.out.ext (HB1.out.trans hE1.out)
              have ⟨r0, r1, r2, r3, r4, r5, r6⟩ := R0.out.ext (HB1.out.trans hE1.out)
              generalize scl th bd r i j = sc at hnn hw HQ HR h45 HFE0
              have HKP := Lib.hid (show ∀ X X' : World, (fun X : World => X.cell? ⟨w.heap.size, 0, none⟩ = some (.slice a n cap) ∧ X.cell? ⟨w.heap.size, 1, none⟩ = some (vb) ∧ X.cell? ⟨w.heap.size + 1, 0, none⟩ = some (.int .i64 r.lo) ∧ X.cell? ⟨w.heap.size + 1, 1, none⟩ = some (.int .i64 r.hi) ∧ X.cell? ⟨w.heap.size + 1, 2, none⟩ = some (.int .i64 r.st) ∧ X.cell? ⟨w.heap.size + 1, 3, none⟩ = some (.int .i64 r.tr) ∧ X.cell? ⟨w.heap.size + 1, 4, none⟩ = some (.int .i64 r.off) ∧ X.cell? ⟨w.heap.size + 1, 5, none⟩ = some (.int .i64 r.dv) ∧ X.cell? ⟨w.heap.size + 1, 6, none⟩ = some (.int .i64 r.tn) ∧ X.cell? ⟨b2, off + k * 2, none⟩ = some (.int .i64 i) ∧ X.cell? ⟨b2, off + k * 2 + 1, none⟩ = some (.int .i64 j) ∧ Hid (Ext wr X)) X → Ext X X' → (fun X : World => X.cell? ⟨w.heap.size, 0, none⟩ = some (.slice a n cap) ∧ X.cell? ⟨w.heap.size, 1, none⟩ = some (vb) ∧ X.cell? ⟨w.heap.size + 1, 0, none⟩ = some (.int .i64 r.lo) ∧ X.cell? ⟨w.heap.size + 1, 1, none⟩ = some (.int .i64 r.hi) ∧ X.cell? ⟨w.heap.size + 1, 2, none⟩ = some (.int .i64 r.st) ∧ X.cell? ⟨w.heap.size + 1, 3, none⟩ = some (.int .i64 r.tr) ∧ X.cell? ⟨w.heap.size + 1, 4, none⟩ = some (.int .i64 r.off) ∧ X.cell? ⟨w.heap.size + 1, 5, none⟩ = some (.int .i64 r.dv) ∧ X.cell? ⟨w.heap.size + 1, 6, none⟩ = some (.int .i64 r.tn) ∧ X.cell? ⟨b2, off + k * 2, none⟩ = some (.int .i64 i) ∧ X.cell? ⟨b2, off + k * 2 + 1, none⟩ = some (.int .i64 j) ∧ Hid (Ext wr X)) X' from fun X X' h hb => ⟨cell_ext hb h.1, cell_ext hb h.2.1, cell_ext hb h.2.2.1, cell_ext hb h.2.2.2.1, cell_ext hb h.2.2.2.2.1, cell_ext hb h.2.2.2.2.2.1, cell_ext hb h.2.2.2.2.2.2.1, cell_ext hb h.2.2.2.2.2.2.2.1, cell_ext hb h.2.2.2.2.2.2.2.2.1, cell_ext hb h.2.2.2.2.2.2.2.2.2.1, cell_ext hb h.2.2.2.2.2.2.2.2.2.2.1, Lib.hid (Ext.trans h.2.2.2.2.2.2.2.2.2.2.2.out hb)⟩)
              go_wp2
              refine wp_region_order (fun X : World => X.cell? ⟨w.heap.size, 0, none⟩ = some (.slice a n cap) ∧ X.cell? ⟨w.heap.size, 1, none⟩ = some (vb) ∧ X.cell? ⟨w.heap.size + 1, 0, none⟩ = some (.int .i64 r.lo) ∧ X.cell? ⟨w.heap.size + 1, 1, none⟩ = some (.int .i64 r.hi) ∧ X.cell? ⟨w.heap.size + 1, 2, none⟩ = some (.int .i64 r.st) ∧ X.cell? ⟨w.heap.size + 1, 3, none⟩ = some (.int .i64 r.tr) ∧ X.cell? ⟨w.heap.size + 1, 4, none⟩ = some (.int .i64 r.off) ∧ X.cell? ⟨w.heap.size + 1, 5, none⟩ = some (.int .i64 r.dv) ∧ X.cell? ⟨w.heap.size + 1, 6, none⟩ = some (.int .i64 r.tn) ∧ X.cell? ⟨b2, off + k * 2, none⟩ = some (.int .i64 i) ∧ X.cell? ⟨b2, off + k * 2 + 1, none⟩ = some (.int .i64 j) ∧ Hid (Ext wr X)) [0, 1, 2, 3, 4, 5, 6, 7, 8, 9, 10, 11, 12, 13] (by kernel_rfl) (by kernel_rfl) (by exact ⟨g1, g2, r0, r1, r2, r3, r4, r5, r6, c1, c2, Lib.hid (Ext.refl wr).drew⟩) (fun hHeld => ?_)
              simp only [opsIn, List.filterMap_cons, List.filterMap_nil, List.getElem?_toArray, List.getElem?_cons_succ, List.getElem?_cons_zero]
              refine' text_chunk 12 (by kernel_rfl) hHeld ?ck1 ?cr1
              case ck1 =>
                intro W hSw
                have hSW := hSw
                try dsimp only at hSW
                clear hSw
                simp only [List.take_succ_cons, List.take_zero, List.drop_succ_cons, List.drop_zero]
                repeat (go_big_quiet_step (fail))
                exact wpQuiet_nil rfl
              simp only [List.take_succ_cons, List.take_zero, List.drop_succ_cons, List.drop_zero]
              refine text_call (by rfl) (by rfl) (fun K hK => ?_)
              go_simp
              (go_at_call 45; refine (h45.out _ (EW.out.trans hHeld.2.2.2.2.2.2.2.2.2.2.2.out)).mono ?_; rintro e w5 ⟨rfl, hb⟩)
              all_goals (try (go_wp2_with fail))
              refine hK.out _ _ (by exact HKP.out _ _ hHeld hb) (fun hHeld => ?_)
              clear hK K
              try simp only [Act.put, List.setIfInBounds_toArray, List.set_cons_zero, List.set_cons_succ]
              refine' text_chunk 1 (by kernel_rfl) hHeld ?ck2 ?cr2
              case ck2 =>
                intro W hSw
                have hSW := hSw
                try dsimp only at hSW
                clear hSw
                simp only [List.take_succ_cons, List.take_zero, List.drop_succ_cons, List.drop_zero]
                repeat (go_big_quiet_step (fail))
                exact wpQuiet_nil rfl
              simp only [List.take_succ_cons, List.take_zero, List.drop_succ_cons, List.drop_zero]
              refine text_done ?_
              have hK := Lib.hid (hE1.out.trans hHeld.2.2.2.2.2.2.2.2.2.2.2.out)
              clear hHeld g1 g2 r0 r1 r2 r3 r4 r5 r6 c1 c2 HKP
              by_cases hz : sc = 0
              · have hzb : decide (sc < 1) = true := decide_eq_true (by omega)
                have hre := Lib.hid (HFE0.out hz)
                clear HE3 hz HFE0
                go_wp2
                go_ret2
                exact ⟨by rw [hre.out]; rfl, E2.out.trans hK.out⟩
              · have hzb : decide (sc < 1) = false := decide_eq_false (by omega)
                have HI2 := Lib.hid (show ((ls.take (k + 1)).any fun p => decide (scl th bd r p.1 p.2 = 0)) = false from by rw [HR.out]; exact decide_eq_false hz)
                clear hz HFE0
                go_wp2
                go_roundw
                case rel => exact ⟨k + 1, S + sc, by omega, by go_num, rfl, hK, Lib.hid HQ.out.symm, HI2⟩
                case measure => simp [intOf]; omega
            · obtain rfl : k = n2 := by omega
              have hre := Lib.hid (show fe = (S, 0) from by
                have h1 := hI.out
                have h2 := hS.out
                rw [List.take_of_length_le (by rw [← HN2.out]; omega)] at h1 h2
                rw [HE3.out, if_neg (by rw [h1]; simp), h2])
              clear HE3 hS hI
              go_wp2
              go_ret2
              exact ⟨by rw [hre.out]; rfl, E2.out.trans hE1.out⟩
end Go.Proofs.Ytcgheakadfjofaa
