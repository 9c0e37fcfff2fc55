/- The reference's CheckPrices. -/
import Derived.Test.YtcgheakadfjofaaD3
import Derived.Test.YtcgheakadfjofaaC7
import Derived.Test.YtcgheakadfjofaaC3
import Derived.BigQuiet
import Derived.Deep.QuietTactic
namespace Go.Proofs.Ytcgheakadfjofaa
open Go.RowKit Go.Shelf
set_option linter.unusedVariables false
set_option linter.unusedSimpArgs false
attribute [local go_sem] Oper.semAt_some
/-- Prices are right, place by place. -/
def rgB (f : Nat → Nat → Int) (n : Nat) (q : Nat → Int) (k i : Nat) : Bool := (logsT f allB k i).all fun j => decide (f i j + q j ≤ q i)
def rightB (f : Nat → Nat → Int) (n : Nat) (q : Nat → Int) (m : Nat) : Bool := (List.range m).all fun i => decide (q (i + 1) ≤ q i) && rgB f n q n i
theorem rightB_succ (f : Nat → Nat → Int) (n : Nat) (q : Nat → Int) (m : Nat) : rightB f n q (m + 1) = (rightB f n q m && (decide (q (m + 1) ≤ q m) && rgB f n q n m)) := by
  simp [rightB, List.range_succ]
theorem rgB_self (f : Nat → Nat → Int) (n : Nat) (q : Nat → Int) (i : Nat) : rgB f n q i i = true := by unfold rgB; rw [logsT_self]; rfl
theorem rgB_more (f : Nat → Nat → Int) (n : Nat) (q : Nat → Int) {k i : Nat} (h : i ≤ k) : rgB f n q (k + 1) i = (rgB f n q k i && (!decide (0 < f i (k + 1)) || decide (f i (k + 1) + q (k + 1) ≤ q i))) := by
  unfold rgB
  rw [logsT_more f allB h, List.all_append]
  congr 1
  by_cases hp : 0 < f i (k + 1)
  · simp [hp, allB]
  · simp [hp]
theorem rgB_mono {f : Nat → Nat → Int} {n : Nat} {q : Nat → Int} {i k : Nat} (h : i ≤ k) : ∀ d, rgB f n q (k + d) i = true → rgB f n q k i = true
  | 0, e => e
  | d + 1, e => by
    rw [show k + (d + 1) = (k + d) + 1 from by omega, rgB_more f n q (by omega), Bool.and_eq_true] at e
    exact rgB_mono h d e.1
theorem rightB_mono {f : Nat → Nat → Int} {n : Nat} {q : Nat → Int} {m : Nat} : ∀ d, rightB f n q (m + d) = true → rightB f n q m = true
  | 0, e => e
  | d + 1, e => by
    rw [show m + (d + 1) = (m + d) + 1 from by omega, rightB_succ, Bool.and_eq_true] at e
    exact rightB_mono d e.1
theorem rightB_iff {f : Nat → Nat → Int} {n : Nat} {q : Nat → Int} : rightB f n q n = true ↔ RightP f n q := by
  unfold rightB rgB RightP
  simp only [List.all_eq_true, List.mem_range, Bool.and_eq_true, decide_eq_true_eq, mem_logsT]
  constructor
  · intro h
    exact ⟨fun i hi => (h i hi).1, fun i j h1 h2 h3 => (h i (by omega)).2 j ⟨h1, h2, h3, rfl⟩⟩
  · rintro ⟨h1, h2⟩ i hi
    exact ⟨h1 i hi, fun j ⟨a, b, c, _⟩ => h2 i j a b c⟩
/-- What CheckPrices gives. -/
def prE (th bd : List Int) (r : Rl) (ps : List Int) : Int × Int :=
  if bothE th bd r ≠ 0 then (0, bothE th bd r) else if ps.length ≠ th.length then (0, 15)
  else if inn 0 1099511627776 ps = false then (0, 3) else if rightB (sF th bd r) (th.length - 1) (fun i => ps.getD i 0) (th.length - 1) = false then (0, 14) else (ps.getD 0 0, 0)
set_option maxRecDepth 100000 in
set_option maxHeartbeats 8000000 in
theorem refprices30 (vt vb vp : Value) (th bd ps : List Int) (r : Rl) (w : World) (ht : Reads w vt th) (hd : Reads w vb bd) (hps : Reads w vp ps) :
    Calls Try.prog 30 #[.agg #[vt, vb], r.val, vp] w fun e w' => e = .returned (.tuple #[.int .i64 (prE th bd r ps).1, .int .i64 (prE th bd r ps).2]) ∧ Ext w w' := by
  obtain ⟨hl, a, cap, rfl⟩ := ht.shape
  obtain ⟨hl2, a2, cap2, rfl⟩ := hps.shape
  obtain ⟨n1, hn⟩ : ∃ n1, n1 = th.length := ⟨_, rfl⟩
  obtain ⟨n2, hn2⟩ : ∃ n2, n2 = ps.length := ⟨_, rfl⟩
  rw [← hn] at ht hl ⊢
  rw [← hn2] at hps hl2 ⊢
  have E0 := Lib.hid (Ext.alloc (Ext.alloc (Ext.refl w) (.cells #[.slice a (n1) cap, vb] 25)) (.cells #[.int .i64 r.lo, .int .i64 r.hi, .int .i64 r.st, .int .i64 r.tr, .int .i64 r.off, .int .i64 r.dv, .int .i64 r.tn] 27))
  have P0 := Lib.hid ((StemAt.new w (.slice a (n1) cap) (vb) 25).ext (Ext.alloc (Ext.refl _) (.cells #[.int .i64 r.lo, .int .i64 r.hi, .int .i64 r.st, .int .i64 r.tr, .int .i64 r.off, .int .i64 r.dv, .int .i64 r.tn] 27)))
  have R0 := RuleAt.new (w.alloc (.cells #[.slice a (n1) cap, vb] 25)) r 27
  rw [World.size_alloc] at R0
  have R0 := Lib.hid R0
  have H53 := Lib.hid (fun (W : World) (h : Ext w W) => refcheck53 _ _ th bd r W (ht.ext h) (hd.ext h))
  have hok : bothE th bd r = 0 → Vw th bd r ∧ 2 ≤ th.length := fun h => by
    obtain ⟨h1, h2⟩ := bothE_ok.1 h
    exact ⟨h1.weak h2, h1.two⟩
  have H45 := Lib.hid (fun (W : World) (h : Ext w W) (hv : Vw th bd r) (i j : Nat) (hij : i < j) (hj : j < n1) => refscale45 _ _ th bd r i j W (ht.ext h) (hd.ext h) hv hij (by rw [← hn]; exact hj))
  have H43 := Lib.hid (fun W : World => (show Calls Try.prog 43 #[.agg #[.slice a n1 cap, vb]] W fun e w' => e = .returned (.int .i64 ((n1 : Int) - 1)) ∧ Ext W w' from long43 a n1 cap vb W (by omega)))
  have hE := show prE th bd r ps = if bothE th bd r ≠ 0 then (0, bothE th bd r) else if ps.length ≠ th.length then (0, 15)
    else if inn 0 1099511627776 ps = false then (0, 3) else if rightB (sF th bd r) (th.length - 1) (fun i => ps.getD i 0) (th.length - 1) = false then (0, 14) else (ps.getD 0 0, 0) from rfl
  have hfs := fun (hv : Vw th bd r) i j => sF_le hv i j
  have hfn := fun (hv : Vw th bd r) (i j : Nat) => scl_nn hv i j
  generalize prE th bd r ps = fe at *
  generalize bothE th bd r = BE at *
  rw [← hn] at hok
  rw [← hn, ← hn2] at hE
  have HOK := Lib.hid hok; have HN := Lib.hid hn; have HPS := Lib.hid hps; have HN2 := Lib.hid hn2
  have HE := Lib.hid hE; have HFS := Lib.hid hfs; have HFN := Lib.hid hfn
  clear hok ht hd hn hps hn2 hE hfs hfn
  have ⟨g1, g2⟩ := P0.out
  have ⟨r0, r1, r2, r3, r4, r5, r6⟩ := R0.out
  go_enter Try.func30, Try.ntmps30
  go_wp2_with fail
  refine (H53.out _ E0.out).mono ?_
  rintro e w1 ⟨rfl, hb⟩
  have E2 := Lib.hid (E0.out.trans hb)
  have HB1 := Lib.hid hb
  clear hb g1 g2 r0 r1 r2 r3 r4 r5 r6
  have ⟨g1, g2⟩ := P0.out.ext (HB1.out)
  have ⟨r0, r1, r2, r3, r4, r5, r6⟩ := R0.out.ext (HB1.out)
  by_cases hbe : BE = 0
  case neg =>
    have hbn : (BE != 0) = true := by simpa using hbe
    have hre := Lib.hid (show fe = (0, BE) from by rw [HE.out, if_pos hbe])
    clear hbe HE
    go_wp2_with fail
    refine (H53.out _ E2.out).mono ?_
    rintro e w2 ⟨rfl, hb⟩
    have E3 := Lib.hid (E2.out.trans hb)
    clear hb
    go_wp2
    go_ret2
    exact ⟨by rw [hre.out]; rfl, E3.out⟩
  have hbn : (BE != 0) = false := by simpa using hbe
  obtain ⟨hv, hn2l⟩ := HOK.out hbe
  have HE0 := Lib.hid (show fe = if n2 ≠ n1 then (0, 15)
    else if inn 0 1099511627776 ps = false then (0, 3) else if rightB (sF th bd r) (n1 - 1) (fun i => ps.getD i 0) (n1 - 1) = false then (0, 14) else (ps.getD 0 0, 0) from by rw [HE.out, if_neg (by simpa using hbe)])
  clear hbe HOK HE H53
  by_cases hne : n2 = n1
  case neg =>
    have hd1 : ((n2 : Int) != (n1 : Int)) = true := by simp; omega
    have hre := Lib.hid (show fe = (0, 15) from by rw [HE0.out, if_pos hne])
    clear HE0
    go_wp2
    go_ret2
    exact ⟨by rw [hre.out]; rfl, E2.out⟩
  subst hne
  have hd1 : ((n2 : Int) != (n2 : Int)) = false := by simp
  obtain ⟨n, rfl⟩ : ∃ n, n2 = n + 1 := ⟨n2 - 1, by omega⟩
  have HE1 := Lib.hid (show fe = if inn 0 1099511627776 ps = false then (0, 3) else if rightB (sF th bd r) n (fun i => ps.getD i 0) n = false then (0, 14) else (ps.getD 0 0, 0) from by rw [HE0.out, if_neg (by simp)]; rfl)
  have hcn : (((n + 1 : Nat)) : Int) = (n : Int) + 1 := by omega
  have HV := Lib.hid hv
  have hn60 := hv.most
  rw [← HN.out] at hn60
  have h43 := H43.out
  rw [show (((n + 1 : Nat)) : Int) - 1 = (n : Int) from by omega] at h43
  have H43n := Lib.hid h43
  have HP1 := Lib.hid (HPS.out.ext E2.out)
  clear HE0 hv hd1 h43 H43
  obtain ⟨b2, off, x0, rfl, -, -⟩ := HP1.out.at (k := 0) (by rw [← HN2.out]; omega)
  have HPC := Lib.hid (show ∀ k, k < n + 1 → ∀ W, Ext w1 W → W.cell? ⟨b2, off + k, none⟩ = some (.int .i64 (ps.getD k 0)) from fun k hk W h => (HP1.out.ext h).get (by rw [← HN2.out]; exact hk))
  go_wp2_with fail
  go_loop [8] (fun i => ∃ k : Nat, k ≤ n + 1 ∧ i = .int .i64 (k : Int) ∧ Hid (inn 0 1099511627776 (ps.take k) = true)) (fun i => n + 1 - (intOf i).toNat)
  case atStart => exact ⟨0, Nat.zero_le _, rfl, Lib.hid (by simp [inn])⟩
  case round =>
    obtain ⟨k, hk, rfl, hI⟩ := hrel
    by_cases hlt : k < n + 1
    · obtain ⟨x, hx⟩ := get_some (show k < ps.length by rw [← HN2.out]; exact hlt)
      have hc := HPC.out k hlt w1 (Ext.refl _)
      rw [show ps.getD k 0 = x from by simp [List.getD, hx]] at hc
      have HX := Lib.hid hx
      have hs := inn_snoc 0 1099511627776 ps k x hx
      rw [hI.out, Bool.true_and] at hs
      have h60 := refwithin60 x 0 1099511627776 w1
      have hka : (0 : Int) ≤ (k : Int) := by omega
      have hkb : (k : Int) < (n : Int) + 1 := by omega
      have hkt : (k : Int).toNat = k := by omega
      have hd2 : decide ((k : Int) < (n : Int) + 1) = true := decide_eq_true hkb
      have hkw : IntKind.i64.wrap ((k : Int) + 1) = (k : Int) + 1 := wrapi64 _ (by omega) (by omega)
      cases hB : (decide (0 ≤ x) && decide (x ≤ 1099511627776))
      · rw [hB] at h60
        have hre := Lib.hid (show fe = (0, 3) from by
          rw [HE1.out, if_pos]
          refine inn_false 0 1099511627776 ps k x hx ?_
          simp at hB; omega)
        have H60 := Lib.hid h60
        clear HE1 hx hs hB h60
        go_wp2_with fail
        refine H60.out.mono ?_
        rintro e w2 ⟨rfl, rfl⟩
        go_wp2
        go_ret2
        exact ⟨by rw [hre.out]; rfl, E2.out⟩
      · rw [hB] at h60 hs
        have HS := Lib.hid hs
        have H60 := Lib.hid h60
        clear hx hs hB h60
        go_wp2_with fail
        refine H60.out.mono ?_
        rintro e w2 ⟨rfl, rfl⟩
        go_wp2
        go_round
        case rel => exact ⟨k + 1, by omega, by go_num, HS⟩
        case measure => simp [intOf]; omega
    · have hd2 : decide ((k : Int) < (n : Int) + 1) = false := decide_eq_false (by omega)
      have hin := hI.out
      rw [List.take_of_length_le (by rw [← HN2.out]; omega)] at hin
      have hq1 := fun k => getD_le (inn_iff.1 hin) (by omega) (by omega) k
      obtain ⟨F, hF⟩ : ∃ F, F = sF th bd r := ⟨_, rfl⟩
      obtain ⟨q, hq⟩ : ∃ q : Nat → Int, q = fun i => ps.getD i 0 := ⟨_, rfl⟩
      have HE2 := Lib.hid (show fe = if rightB F n q n = false then (0, 14) else (q 0, 0) from by rw [HE1.out, if_neg (by rw [hin]; simp), hF, hq])
      have HQ := Lib.hid (show ∀ k, 0 ≤ q k ∧ q k ≤ 1099511627776 from fun k => by rw [hq]; exact hq1 k)
      have HC := Lib.hid (show ∀ k, k < n + 1 → ∀ W, Ext w1 W → W.cell? ⟨b2, off + k, none⟩ = some (.int .i64 (q k)) from fun k hk W h => by rw [hq]; exact HPC.out k hk W h)
      have HFB := Lib.hid (show ∀ i j, 0 ≤ F i j ∧ F i j ≤ 216000 from fun i j => by rw [hF]; exact ⟨HFN.out HV.out i j, HFS.out HV.out i j⟩)
      have H45n := Lib.hid (show ∀ (W : World), Ext w W → ∀ (i j : Nat), i < j → j < n + 1 → Calls Try.prog 45 #[.agg #[.slice a (n + 1) cap, vb], r.val, .int .i64 (i : Int), .int .i64 (j : Int)] W fun e w' => e = .returned (.int .i64 (F i j)) ∧ Ext W w' from fun W h i j h1 h2 => by rw [hF]; exact H45.out W h HV.out i j h1 h2)
      have HNO := Lib.hid (show ∀ m, m ≤ n → rightB F n q m = false → fe = (0, 14) from fun m hm h => by
        rw [HE2.out, if_pos]
        cases e : rightB F n q n with
        | false => rfl
        | true =>
          have := rightB_mono (n - m) (show rightB F n q (m + (n - m)) = true by rw [show m + (n - m) = n from by omega]; exact e)
          rw [h] at this; cases this)
      clear hin hq1 hF hq hI HE1 HPC HV H45 HFS HFN
      go_wp2_with fail
      go_loopw [9] (fun s wr => ∃ k : Nat, k ≤ n ∧ s = .int .i64 (k : Int) ∧ Hid (Ext w1 wr) ∧ Hid (rightB F n q k = true)) (fun s wr => n - (intOf s).toNat)
      case atStart => exact ⟨0, Nat.zero_le _, rfl, Lib.hid (Ext.refl _), Lib.hid (by simp [rightB])⟩
      case round =>
        obtain ⟨i, hin, rfl, hE1, hI⟩ := hrel
        have ⟨g1, g2⟩ := P0.out.ext (HB1.out.trans hE1.out)
        have ⟨r0, r1, r2, r3, r4, r5, r6⟩ := R0.out.ext (HB1.out.trans hE1.out)
        go_wp2_with fail
        refine (H43n.out _).mono ?_
        rintro e w2 ⟨rfl, hb⟩
        have EA := Lib.hid (hE1.out.trans hb)
        clear hb g1 g2 r0 r1 r2 r3 r4 r5 r6
        by_cases hlt2 : i < n
        · have hd3 : decide ((i : Int) < (n : Int)) = true := decide_eq_true (by omega)
          have k0 := HC.out i (by omega) _ EA.out
          have k1 := HC.out (i + 1) (by omega) _ EA.out
          have hia : (0 : Int) ≤ (i : Int) := by omega
          have hib : (i : Int) < (n : Int) + 1 := by omega
          have hic : (0 : Int) ≤ (i : Int) + 1 := by omega
          have hid' : (i : Int) + 1 < (n : Int) + 1 := by omega
          have hit : (i : Int).toNat = i := by omega
          have hit2 : ((i : Int) + 1).toNat = i + 1 := by omega
          have hiw : IntKind.i64.wrap ((i : Int) + 1) = (i : Int) + 1 := wrapi64 _ (by omega) (by omega)
          by_cases hc1 : q i < q (i + 1)
          · have hd4 : decide (q i < q (i + 1)) = true := decide_eq_true hc1
            have hre := Lib.hid (HNO.out (i + 1) (by omega) (by rw [rightB_succ, decide_eq_false (by omega)]; simp))
            clear HE2
            generalize q i = x at *
            generalize q (i + 1) = y at *
            go_wp2
            go_quiet (fail)
            go_wp2
            go_ret2
            exact ⟨by rw [hre.out]; rfl, (E2.out.trans EA.out).drewN _⟩
          · have hd4 : decide (q i < q (i + 1)) = false := decide_eq_false hc1
            have HLE := Lib.hid (show decide (q (i + 1) ≤ q i) = true from decide_eq_true (by omega))
            have hqi := HQ.out i
            obtain ⟨x, hx⟩ : ∃ x, x = q i := ⟨_, rfl⟩
            obtain ⟨y, hy⟩ : ∃ y, y = q (i + 1) := ⟨_, rfl⟩
            rw [← hx] at k0 hd4 hqi
            rw [← hy] at k1 hd4
            have HXI := Lib.hid hx
            clear hx hy hc1
            go_wp2
            go_quiet (fail)
            go_wp2_with fail
            clear k0 k1 hd4
            go_loopw [10] (fun s wr => ∃ m : Nat, i ≤ m ∧ m ≤ n ∧ s = .int .i64 ((m : Int) + 1) ∧ Hid (Ext w1 wr) ∧ Hid (rgB F n q m i = true)) (fun s wr => ((n : Int) + 1 - intOf s).toNat)
            case atStart => exact ⟨i, Nat.le_refl _, by omega, rfl, Lib.hid (EA.out.drewN _), Lib.hid (rgB_self _ _ _ _)⟩
            case round =>
              obtain ⟨m, him, hmn, rfl, hE3, hG⟩ := hrel
              have ⟨g1, g2⟩ := P0.out.ext (HB1.out.trans hE3.out)
              have ⟨r0, r1, r2, r3, r4, r5, r6⟩ := R0.out.ext (HB1.out.trans hE3.out)
              go_wp2_with fail
              refine (H43n.out _).mono ?_
              rintro e w4 ⟨rfl, hb⟩
              have EB := Lib.hid (hE3.out.trans hb)
              clear hb g1 g2 r0 r1 r2 r3 r4 r5 r6
              by_cases hlt3 : m < n
              · have hd5 : decide ((m : Int) + 1 ≤ (n : Int)) = true := decide_eq_true (by omega)
                have hmw : IntKind.i64.wrap ((m : Int) + 1 + 1) = (m : Int) + 1 + 1 := wrapi64 _ (by omega) (by omega)
                have hma : (0 : Int) ≤ (m : Int) + 1 := by omega
                have hmb : (m : Int) + 1 < (n : Int) + 1 := by omega
                have hmt : ((m : Int) + 1).toNat = m + 1 := by omega
                have ⟨g1, g2⟩ := P0.out.ext (HB1.out.trans EB.out)
                have ⟨r0, r1, r2, r3, r4, r5, r6⟩ := R0.out.ext (HB1.out.trans EB.out)
                have h45 := H45n.out w4 (E2.out.trans EB.out) i (m + 1) (by omega) (by omega)
                rw [Int.natCast_add, Int.natCast_one] at h45
                have hmore := rgB_more F n q (i := i) (k := m) him
                have hfb := HFB.out i (m + 1)
                have hqb := HQ.out (m + 1)
                rw [hG.out, Bool.true_and] at hmore
                obtain ⟨fv, hfv⟩ : ∃ fv, fv = F i (m + 1) := ⟨_, rfl⟩
                obtain ⟨z, hz⟩ : ∃ z, z = q (m + 1) := ⟨_, rfl⟩
                rw [← hfv] at h45 hmore hfb
                rw [← hz] at hmore hqb
                rw [← HXI.out] at hmore
                have HM := Lib.hid hmore; have H45i := Lib.hid h45; have HZ := Lib.hid hz
                clear hmore h45 hfv hz
                go_wp2_with fail
                refine H45i.out.mono ?_
                rintro e w5 ⟨rfl, hb⟩
                have EC := Lib.hid (EB.out.trans hb)
                clear hb g1 g2 r0 r1 r2 r3 r4 r5 r6
                have k0 := HC.out i (by omega) _ EC.out
                have k1 := HC.out (m + 1) (by omega) _ EC.out
                rw [← HXI.out] at k0
                rw [← HZ.out] at k1
                have hsw : IntKind.i64.wrap (fv + z) = fv + z := wrapi64 _ (by omega) (by omega)
                by_cases hp : 0 < fv
                · have hd6 : decide (0 < fv) = true := decide_eq_true hp
                  by_cases hc2 : x < fv + z
                  · have hd7 : decide (x < fv + z) = true := decide_eq_true hc2
                    have hre := Lib.hid (HNO.out (i + 1) (by omega) (by
                      have h1 : rgB F n q (m + 1) i = false := by rw [HM.out, hd6, decide_eq_false (by omega)]; rfl
                      have h2 : rgB F n q n i = false := by
                        cases e : rgB F n q n i with
                        | false => rfl
                        | true =>
                          have := rgB_mono (n := n) (q := q) (f := F) (i := i) (k := m + 1) (by omega) (n - (m + 1)) (by rw [show m + 1 + (n - (m + 1)) = n from by omega]; exact e)
                          rw [h1] at this; cases this
                      rw [rightB_succ, h2]; simp))
                    clear HM HE2
                    go_wp2
                    go_quiet (fail)
                    go_wp2
                    go_ret2
                    exact ⟨by rw [hre.out]; rfl, (E2.out.trans EC.out).drewN _⟩
                  · have hd7 : decide (x < fv + z) = false := decide_eq_false hc2
                    have hG2 := Lib.hid (show rgB F n q (m + 1) i = true from by rw [HM.out, hd6, decide_eq_true (by omega)]; rfl)
                    clear HM
                    go_wp2
                    go_quiet (fail)
                    go_wp2
                    go_roundw
                    case rel => exact ⟨m + 1, by omega, by omega, by go_num, Lib.hid (EC.out.drewN _), hG2⟩
                    case measure => simp [intOf]; omega
                · have hd6 : decide (0 < fv) = false := decide_eq_false hp
                  have hG2 := Lib.hid (show rgB F n q (m + 1) i = true from by rw [HM.out, hd6]; rfl)
                  clear HM
                  go_wp2
                  go_quiet (fail)
                  go_wp2
                  go_roundw
                  case rel => exact ⟨m + 1, by omega, by omega, by go_num, Lib.hid (EC.out.drewN _), hG2⟩
                  case measure => simp [intOf]; omega
              · have hd5 : decide ((m : Int) + 1 ≤ (n : Int)) = false := decide_eq_false (by omega)
                obtain rfl : m = n := by omega
                have hI2 := Lib.hid (show rightB F m q (i + 1) = true from by rw [rightB_succ, hI.out, HLE.out, hG.out]; rfl)
                clear hI hG
                go_wp2
                go_roundw
                case rel => exact ⟨i + 1, by omega, by go_num, EB, hI2⟩
                case measure => simp [intOf]; omega
        · have hd3 : decide ((i : Int) < (n : Int)) = false := decide_eq_false (by omega)
          obtain rfl : i = n := by omega
          have k0 := HC.out 0 (by omega) _ EA.out
          rw [Nat.add_zero] at k0
          have hre := Lib.hid (show fe = (q 0, 0) from by rw [HE2.out, if_neg (by rw [hI.out]; simp)])
          clear HE2 hI
          generalize q 0 = x at *
          go_wp2
          go_ret2
          exact ⟨by rw [hre.out]; rfl, E2.out.trans EA.out⟩
end Go.Proofs.Ytcgheakadfjofaa
