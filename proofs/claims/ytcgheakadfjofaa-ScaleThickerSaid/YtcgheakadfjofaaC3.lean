/- Lists of logs in memory; logs one after another. CheckCut. -/
import Derived.Test.YtcgheakadfjofaaB19
import Derived.Deep.LoopGhost
import Derived.Deep.RegionWith
import Derived.Test.YtcgheakadfjofaaB16
namespace Go.Proofs.Ytcgheakadfjofaa
open Go.RowKit
set_option linter.unusedVariables false
set_option linter.unusedSimpArgs false
/-- A slice of logs that reads as a list. -/
def ReadsLg (w : World) (v : Value) (ls : List (Int × Int)) : Prop :=
  ls.length ≤ 5000 ∧ ∃ a cap, v = .slice a ls.length cap ∧ ((a = none ∧ ls = []) ∨ ∃ b off, a = some ⟨b, off, none⟩ ∧
    ∀ i p, ls[i]? = some p → w.cell? ⟨b, off + i * 2, none⟩ = some (.int .i64 p.1) ∧ w.cell? ⟨b, off + i * 2 + 1, none⟩ = some (.int .i64 p.2))
theorem ReadsLg.ext {w w' : World} {v : Value} {ls : List (Int × Int)} (h : ReadsLg w v ls) (hb : Ext w w') : ReadsLg w' v ls := by
  obtain ⟨hl, a, cap, rfl, h⟩ := h
  refine ⟨hl, a, cap, rfl, h.imp id ?_⟩
  rintro ⟨b, off, rfl, hc⟩
  exact ⟨b, off, rfl, fun i p hi => ⟨cell_ext hb (hc i p hi).1, cell_ext hb (hc i p hi).2⟩⟩
theorem ReadsLg.nil (w : World) : ReadsLg w (.slice none 0 0) [] := ⟨by simp, none, 0, rfl, .inl ⟨rfl, rfl⟩⟩
theorem ReadsLg.at {w : World} {a : Option Addr} {n cap : Nat} {ls : List (Int × Int)} (h : ReadsLg w (.slice a n cap) ls) {k : Nat} (hk : k < ls.length) :
    ∃ b off p, a = some ⟨b, off, none⟩ ∧ ls[k]? = some p ∧ w.cell? ⟨b, off + k * 2, none⟩ = some (.int .i64 p.1) ∧ w.cell? ⟨b, off + k * 2 + 1, none⟩ = some (.int .i64 p.2) := by
  obtain ⟨hl, a', cap', e, h⟩ := h
  cases e
  rcases h with ⟨rfl, rfl⟩ | ⟨b, off, rfl, hc⟩
  · simp at hk
  · exact ⟨b, off, ls[k], rfl, by simp [hk], hc k _ (by simp [hk])⟩
theorem ReadsLg.shape {w : World} {v : Value} {ls : List (Int × Int)} (h : ReadsLg w v ls) : ls.length ≤ 5000 ∧ ∃ a cap, v = .slice a ls.length cap := ⟨h.1, let ⟨a, cap, e, _⟩ := h.2; ⟨a, cap, e⟩⟩
/-- No log begins before the end of the one before it. -/
def oneB : List (Int × Int) → Bool
  | p :: q :: l => decide (p.2 ≤ q.1) && oneB (q :: l)
  | _ => true
theorem one_take_succ (ls : List (Int × Int)) (k : Nat) (x y : Int × Int) (h : ls[k]? = some x) (h' : ls[k + 1]? = some y) : oneB (ls.take (k + 2)) = (oneB (ls.take (k + 1)) && decide (x.2 ≤ y.1)) := by
  induction ls generalizing k with
  | nil => simp at h
  | cons a l ih =>
    cases k with
    | zero =>
      cases l with
      | nil => simp at h'
      | cons b l => simp at h h'; subst h; subst h'; simp [oneB]
    | succ k =>
      cases l with
      | nil => simp at h
      | cons b l =>
        simp only [List.getElem?_cons_succ] at h h'
        have := ih k h h'
        simp only [List.take_succ_cons] at this ⊢
        simp only [oneB, this, Bool.and_assoc]
theorem one_prefix : ∀ (ls : List (Int × Int)) (n : Nat), oneB ls = true → oneB (ls.take n) = true
  | [], n, _ => by simp [oneB]
  | [x], n, _ => by cases n <;> simp [oneB]
  | x :: y :: l, 0, _ => by simp [oneB]
  | x :: y :: l, 1, _ => by simp [oneB]
  | x :: y :: l, n + 2, h => by
    have h1 := one_prefix (y :: l) (n + 1)
    simp only [oneB, Bool.and_eq_true, List.take_succ_cons] at h h1 ⊢
    exact ⟨h.1, h1 h.2⟩
set_option maxHeartbeats 1000000 in
theorem one61 (v : Value) (ls : List (Int × Int)) (w : World) (hr : ReadsLg w v ls) :
    Calls Try.prog 61 #[v] w fun e w' => e = .returned (.bool (oneB ls)) ∧ Ext w w' := by
  obtain ⟨hl, a, cap, rfl⟩ := hr.shape
  have HC := Lib.hid hr; clear hr
  have hl2 : ls.length ≤ 9223372036854775807 := by omega
  go_enter Try.func61, Try.ntmps61
  go_wp2
  go_loopw [3] (fun i wr => ∃ k : Nat, (k + 1 ≤ ls.length ∨ k = 0) ∧ i = .int .i64 ((k : Int) + 1) ∧ Hid (oneB (ls.take (k + 1)) = true) ∧ Hid (Ext w wr)) (fun i wr => ls.length + 1 - (intOf i).toNat)
  case atStart => exact ⟨0, .inr rfl, rfl, (by cases ls <;> simp [oneB] : _ = true), Ext.refl _⟩
  case round =>
    obtain ⟨k, hk, rfl, hI, hE⟩ := hrel
    by_cases hlt : k + 1 < ls.length
    · obtain ⟨b, off, y, rfl, hy, hcy, -⟩ := (HC.out.ext hE.out).at hlt
      obtain ⟨b', off', x, hbx, hx, -, hcx⟩ := (HC.out.ext hE.out).at (show k < ls.length by omega)
      cases hbx
      have hs := one_take_succ ls k x y hx hy
      rw [hI.out, Bool.true_and] at hs
      have HS := Lib.hid hs
      clear hx hy hs
      obtain ⟨x1, x2⟩ := x
      obtain ⟨y1, y2⟩ := y
      have hka : (0 : Int) ≤ (k : Int) + 1 := by omega
      have hkb : (k : Int) + 1 < (ls.length : Int) := by omega
      have hkc : (0 : Int) ≤ (k : Int) := by omega
      have hkd : (k : Int) < (ls.length : Int) := by omega
      have hw1 : IntKind.i64.wrap ((k : Int) + 1 - 1) = (k : Int) := by rw [show (k : Int) + 1 - 1 = k from by omega]; exact wrapi64 _ (by omega) (by omega)
      have ht : ((k : Int) + 1).toNat = k + 1 := by omega
      have ht2 : (k : Int).toNat = k := by omega
      simp only at hcx hcy HS
      by_cases hxy : y1 < x2
      · have hd : decide (y1 < x2) = true := by simp; omega
        go_wp2
        go_quiet (fail)
        go_wp2
        go_ret
        refine ⟨ret_bool ?_, hE.out.drewN _⟩
        cases e : oneB ls with
        | false => rfl
        | true =>
          have h1 := one_prefix ls (k + 2) e
          rw [HS.out] at h1
          simp at h1; omega
      · have hd : decide (y1 < x2) = false := by simp; omega
        go_wp2
        go_quiet (fail)
        go_wp2
        go_roundw
        case rel => exact ⟨k + 1, .inl (by omega), by go_num, (by rw [show k + 1 + 1 = k + 2 from rfl, HS.out]; simp; omega : _ = true), Lib.hid (hE.out.drewN _)⟩
        case measure => simp [intOf]; omega
    · go_wp2
      go_ret
      refine ⟨ret_bool ?_, hE.out⟩
      have h1 := hI.out
      rw [List.take_of_length_le (by omega)] at h1
      exact h1.symm
end Go.Proofs.Ytcgheakadfjofaa
namespace Go.Proofs.Ytcgheakadfjofaa
open Go.RowKit
set_option linter.unusedVariables false
set_option linter.unusedSimpArgs false
def cutE (th bd : List Int) (r : Rl) (ls : List (Int × Int)) : Int × Int :=
  if bothE th bd r ≠ 0 then (0, bothE th bd r) else if 60 < ls.length then (0, 6)
  else if (ls.all fun p => lieB th p.1 p.2) = false then (0, 2) else if oneB ls = false then (0, 16)
  else if (ls.any fun p => decide (scl th bd r p.1 p.2 = 0)) = true then (0, 18) else ((ls.map fun p => scl th bd r p.1 p.2).sum, 0)
theorem scl_nn {th bd : List Int} {r : Rl} (hv : Vw th bd r) (i j : Int) : 0 ≤ scl th bd r i j := by
  unfold scl
  split; · omega
  split; · omega
  rename_i h1 h2
  obtain ⟨q1, q2, q3, q4, q5, q6, q7, q8, q9, q10, q11, q12, q13⟩ := hv.rule
  exact Int.ediv_nonneg (Int.mul_nonneg (Int.mul_nonneg (by omega) (by omega)) (by omega)) (by omega)
set_option maxRecDepth 100000 in
set_option maxHeartbeats 4000000 in
theorem cut24 (vt vb vl : Value) (th bd : List Int) (r : Rl) (ls : List (Int × Int)) (w : World) (ht : Reads w vt th) (hd : Reads w vb bd) (hls : ReadsLg w vl ls) :
    Calls Try.prog 24 #[.agg #[vt, vb], r.val, vl] w fun e w' => e = .returned (.tuple #[.int .i64 (cutE th bd r ls).1, .int .i64 (cutE th bd r ls).2]) ∧ Ext w w' := by
  obtain ⟨hl, a, cap, rfl⟩ := ht.shape
  obtain ⟨hl', a', cap', rfl⟩ := hd.shape
  obtain ⟨hl2, a2, cap2, rfl⟩ := hls.shape
  obtain ⟨n, hn⟩ : ∃ n, n = th.length := ⟨_, rfl⟩
  obtain ⟨n', hn'⟩ : ∃ n', n' = bd.length := ⟨_, rfl⟩
  obtain ⟨n2, hn2⟩ : ∃ n2, n2 = ls.length := ⟨_, rfl⟩
  rw [← hn] at ht hl ⊢
  rw [← hn'] at hd ⊢
  rw [← hn2] at hls hl2 ⊢
  have E0 := Lib.hid (Ext.alloc (Ext.alloc (Ext.refl w) (.cells #[.slice a n cap, .slice a' n' cap'] 25)) (.cells #[.int .i64 r.lo, .int .i64 r.hi, .int .i64 r.st, .int .i64 r.tr, .int .i64 r.off, .int .i64 r.dv, .int .i64 r.tn] 27))
  have P0 := Lib.hid ((StemAt.new w (.slice a n cap) (.slice a' n' cap') 25).ext (Ext.alloc (Ext.refl _) (.cells #[.int .i64 r.lo, .int .i64 r.hi, .int .i64 r.st, .int .i64 r.tr, .int .i64 r.off, .int .i64 r.dv, .int .i64 r.tn] 27)))
  have R0 := RuleAt.new (w.alloc (.cells #[.slice a n cap, .slice a' n' cap'] 25)) r 27
  rw [World.size_alloc] at R0
  have R0 := Lib.hid R0
  have h50 := fun (W : World) (h : Ext w W) => open50 _ _ th bd r W (ht.ext h) (hd.ext h)
  have hok : bothE th bd r = 0 → Vw th bd r := fun h => by
    obtain ⟨h1, h2⟩ := bothE_ok.1 h
    exact h1.weak h2
  have hE := show cutE th bd r ls = if bothE th bd r ≠ 0 then (0, bothE th bd r) else if 60 < ls.length then (0, 6)
    else if (ls.all fun p => lieB th p.1 p.2) = false then (0, 2) else if oneB ls = false then (0, 16)
    else if (ls.any fun p => decide (scl th bd r p.1 p.2 = 0)) = true then (0, 18) else ((ls.map fun p => scl th bd r p.1 p.2).sum, 0) from rfl
  generalize cutE th bd r ls = fe at *
  generalize bothE th bd r = BE at *
  rw [← hn2] at hE
  have H50 := Lib.hid h50; have HOK := Lib.hid hok; have HN := Lib.hid hn; have HLS := Lib.hid hls; have HN2 := Lib.hid hn2
  clear h50 hok ht hd hn hn' hls hn2
  go_enter Try.func24, Try.ntmps24
  have ⟨g1, g2⟩ := P0.out
  have ⟨r0, r1, r2, r3, r4, r5, r6⟩ := R0.out
  have HE := Lib.hid hE
  clear hE
  go_wp2_with fail
  refine (H50.out _ E0.out).mono ?_
  rintro e w1 ⟨⟨hbe, rfl⟩ | ⟨rfl, b, rfl, hb1, hyo⟩, hb⟩
  · have hbn : (BE != 0) = true := by simpa using hbe
    have E2 := Lib.hid (E0.out.trans hb)
    have HBE := Lib.hid hbe
    clear g1 g2 r0 r1 r2 r3 r4 r5 r6 hb hbe
    go_wp2
    go_ret2
    exact ⟨by rw [HE.out, if_pos HBE.out]; rfl, E2.out⟩
  · have E2 := Lib.hid (E0.out.trans hb)
    have hv := HOK.out rfl
    have HB0 := Lib.hid hb
    clear g1 g2 r0 r1 r2 r3 r4 r5 r6 hb hb1
    by_cases hm : 60 < n2
    · have hm1 : decide ((60 : Int) < (n2 : Int)) = true := by simp; omega
      go_wp2
      go_ret2
      exact ⟨by rw [HE.out, if_neg (by simp), if_pos hm]; rfl, E2.out⟩
    · have hm1 : decide ((60 : Int) < (n2 : Int)) = false := by simp; omega
      have HM := Lib.hid hm
      have HE1 := Lib.hid (show fe = if (ls.all fun p => lieB th p.1 p.2) = false then (0, 2) else if oneB ls = false then (0, 16)
        else if (ls.any fun p => decide (scl th bd r p.1 p.2 = 0)) = true then (0, 18) else ((ls.map fun p => scl th bd r p.1 p.2).sum, 0) from by rw [HE.out, if_neg (by simp), if_neg hm])
      clear HE HOK H50
      have H51 := Lib.hid (fun (W : World) (h : Ext w1 W) (i j : Int) => lies51 b _ _ th bd r zeros i j W (hyo.ext h))
      have H52 := Lib.hid (show ∀ (W : World) (i j : Int), Ext w1 W → lieB th i j = true → Calls Try.prog 52 #[.pointer (some ⟨b, 0, none⟩), .agg #[.int .i64 i, .int .i64 j]] W fun e w' => e = .returned (.int .i64 (scl th bd r i j)) ∧ Ext W w' from fun W i j h hli => by
        have h1 : 0 ≤ i ∧ i < j ∧ j ≤ (th.length : Int) - 1 := by simp [lieB, inn] at hli; omega
        obtain ⟨i', rfl⟩ := Int.eq_ofNat_of_zero_le h1.1
        obtain ⟨j', rfl⟩ := Int.eq_ofNat_of_zero_le (show 0 ≤ j by omega)
        exact feet52 b _ _ th bd r zeros i' j' W (hyo.ext h) hv (by omega) (by omega))
      have HV := Lib.hid hv
      have HL1 := Lib.hid (HLS.out.ext E2.out)
      have hn5 : n2 ≤ 60 := by omega
      clear hyo hv hm P0 R0 HB0
      go_wp2_with fail
      go_loopw [30] (fun i wr => ∃ k : Nat, k ≤ n2 ∧ i = .int .i64 (k : Int) ∧ Hid (Ext w1 wr) ∧ Hid ((ls.take k).all (fun p => lieB th p.1 p.2) = true)) (fun i wr => n2 - (intOf i).toNat)
      case atStart => exact ⟨0, Nat.zero_le _, rfl, Lib.hid (Ext.refl _), Lib.hid (by simp)⟩
      case round =>
        obtain ⟨k, hk, rfl, hE1, hI⟩ := hrel
        by_cases hlt : k < n2
        · obtain ⟨b2, off, p, rfl, hp, c1, c2⟩ := (HL1.out.ext hE1.out).at (show k < ls.length by rw [← HN2.out]; exact hlt)
          obtain ⟨i, j⟩ := p
          have HP := Lib.hid hp
          clear hp
          simp only at c1 c2
          have hka : (0 : Int) ≤ (k : Int) := by omega
          have hkb : (k : Int) < (n2 : Int) := by omega
          have ht2 : (k : Int).toNat = k := by omega
          go_wp2_with fail
          refine (H51.out _ (hE1.out.alloc _) i j).mono ?_
          rintro e w2 ⟨rfl, hb⟩
          have E3 := Lib.hid ((hE1.out.alloc _).trans hb)
          clear hb c1 c2
          have HT := Lib.hid (take_snoc HP.out)
          cases hli : lieB th i j
          · have HLI := Lib.hid hli
            clear hli
            go_wp2
            go_ret2
            refine ⟨?_, E2.out.trans E3.out⟩
            rw [HE1.out, if_pos]; · rfl
            cases hq : ls.all fun p => lieB th p.1 p.2 with
            | false => rfl
            | true =>
              have h1 := List.all_eq_true.1 hq (i, j) (List.mem_of_getElem? HP.out)
              rw [HLI.out] at h1; cases h1
          · have HLI := Lib.hid hli
            clear hli
            go_wp2
            go_roundw
            case rel => exact ⟨k + 1, by omega, by go_num, E3, Lib.hid (by rw [HT.out, List.all_append, hI.out]; simp [HLI.out])⟩
            case measure => simp [intOf]; omega
        · have hkb : ¬ (k : Int) < (n2 : Int) := by omega
          have HA := Lib.hid (show (ls.all fun p => lieB th p.1 p.2) = true from by
            have h1 := hI.out
            rw [List.take_of_length_le (by rw [← HN2.out]; omega)] at h1
            exact h1)
          have H61 := Lib.hid (one61 _ ls _ (HL1.out.ext hE1.out))
          clear hI
          go_wp2_with fail
          refine (H61.out).mono ?_
          rintro e w2 ⟨rfl, hb⟩
          have E3 := Lib.hid (hE1.out.trans hb)
          clear hb
          have HE2 := Lib.hid (show fe = if oneB ls = false then (0, 16)
            else if (ls.any fun p => decide (scl th bd r p.1 p.2 = 0)) = true then (0, 18) else ((ls.map fun p => scl th bd r p.1 p.2).sum, 0) from by rw [HE1.out, if_neg (by rw [HA.out]; simp)])
          cases ho : oneB ls
          · have hre := Lib.hid (show fe = (0, 16) from by rw [HE2.out, if_pos ho])
            clear ho HE2 HE1
            go_wp2
            go_ret2
            exact ⟨by rw [hre.out]; rfl, E2.out.trans E3.out⟩
          · have HE3 := Lib.hid (show fe = if (ls.any fun p => decide (scl th bd r p.1 p.2 = 0)) = true then (0, 18) else ((ls.map fun p => scl th bd r p.1 p.2).sum, 0) from by rw [HE2.out, if_neg (by rw [ho]; simp)])
            clear ho HE2 HE1
            have HBD := Lib.hid (show ∀ k, k ≤ n2 → 0 ≤ ((ls.take k).map fun p => scl th bd r p.1 p.2).sum ∧ ((ls.take k).map fun p => scl th bd r p.1 p.2).sum ≤ 216000 * (k : Int) from by
              intro k
              induction k with
              | zero => intro _; simp
              | succ k ih =>
                intro hk
                obtain ⟨p, hp⟩ := get_some (show k < ls.length by rw [← HN2.out]; omega)
                have := ih (by omega)
                have hli := List.all_eq_true.1 HA.out p (List.mem_of_getElem? hp)
                have h1 : 0 ≤ p.1 ∧ p.1 < p.2 ∧ p.2 ≤ (th.length : Int) - 1 := by simp [lieB, inn] at hli; omega
                have h2 := sF_le HV.out p.1.toNat p.2.toNat
                unfold sF at h2
                rw [Int.toNat_of_nonneg h1.1, Int.toNat_of_nonneg (by omega)] at h2
                have h3 := scl_nn HV.out p.1 p.2
                rw [take_snoc hp]
                simp only [List.map_append, List.sum_append, List.map_cons, List.map_nil, List.sum_cons, List.sum_nil]
                omega)
            go_wp2_with fail
            go_loopw [12, 44] (fun s i wr => ∃ k : Nat, ∃ S : Int, k ≤ n2 ∧ i = .int .i64 (k : Int) ∧ s = .int .i64 S ∧ Hid (Ext w1 wr) ∧ Hid (S = ((ls.take k).map fun p => scl th bd r p.1 p.2).sum) ∧ Hid ((ls.take k).any (fun p => decide (scl th bd r p.1 p.2 = 0)) = false)) (fun s i wr => n2 - (intOf i).toNat)
            case atStart => exact ⟨0, 0, Nat.zero_le _, rfl, rfl, E3, Lib.hid (by simp), Lib.hid (by simp)⟩
            case round =>
              obtain ⟨k, S, hk, rfl, rfl, hE1, hS, hI⟩ := hrel
              by_cases hlt : k < n2
              · obtain ⟨b2, off, p, rfl, hp, c1, c2⟩ := (HL1.out.ext hE1.out).at (show k < ls.length by rw [← HN2.out]; exact hlt)
                obtain ⟨i, j⟩ := p
                have HP := Lib.hid hp
                have HT := Lib.hid (take_snoc hp)
                have hli := Lib.hid (List.all_eq_true.1 HA.out (i, j) (List.mem_of_getElem? hp))
                have hb0 := HBD.out k hk
                have hb1 := HBD.out (k + 1) (by omega)
                rw [HT.out] at hb1
                simp only [List.map_append, List.sum_append, List.map_cons, List.map_nil, List.sum_cons, List.sum_nil] at hb1
                rw [← hS.out] at hb0 hb1
                have hnn := scl_nn HV.out i j
                have hw : IntKind.i64.wrap (S + scl th bd r i j) = S + scl th bd r i j := wrapi64 _ (by omega) (by omega)
                clear hp hb0 hb1
                simp only at c1 c2
                have hka : (0 : Int) ≤ (k : Int) := by omega
                have hkb : (k : Int) < (n2 : Int) := by omega
                have ht2 : (k : Int).toNat = k := by omega
                have HQ := Lib.hid (show ((ls.take (k + 1)).map fun p => scl th bd r p.1 p.2).sum = S + scl th bd r i j from by
                  rw [HT.out, List.map_append, List.sum_append, ← hS.out]; simp)
                have HR := Lib.hid (show ((ls.take (k + 1)).any fun p => decide (scl th bd r p.1 p.2 = 0)) = decide (scl th bd r i j = 0) from by
                  rw [HT.out, List.any_append, hI.out]; simp)
                have h52 := Lib.hid (H52.out _ i j (hE1.out.alloc (.cells #[.int .i64 i, .int .i64 j] 29)) hli.out)
                clear hS hI
                generalize scl th bd r i j = sc at hnn hw HQ HR h52
                go_wp2_with fail
                refine (h52.out).mono ?_
                rintro e w2 ⟨rfl, hb⟩
                have E4 := Lib.hid ((hE1.out.alloc _).trans hb)
                clear hb c1 c2 h52
                by_cases hz : sc = 0
                · have hzb : (sc == 0) = true := by simpa using hz
                  have hre := Lib.hid (show fe = (0, 18) from by
                    rw [HE3.out, if_pos]
                    have h1 : ((ls.take (k + 1)).any fun p => decide (scl th bd r p.1 p.2 = 0)) = true := by rw [HR.out]; simpa using hz
                    obtain ⟨x, hx, hq⟩ := List.any_eq_true.1 h1
                    exact List.any_eq_true.2 ⟨x, List.mem_of_mem_take hx, hq⟩)
                  clear hz HE3
                  go_wp2
                  go_ret2
                  exact ⟨by rw [hre.out]; rfl, E2.out.trans E4.out⟩
                · have hzb : (sc == 0) = false := by simpa using hz
                  have HZ := Lib.hid hz
                  clear hz
                  go_wp2
                  go_roundw
                  case rel => exact ⟨k + 1, S + sc, by omega, by go_num, rfl, E4, Lib.hid (HQ.out.symm), Lib.hid (by rw [HR.out]; simpa using HZ.out)⟩
                  case measure => simp [intOf]; omega
              · have hkb : ¬ (k : Int) < (n2 : Int) := by omega
                have hre := Lib.hid (show fe = (S, 0) from by
                  have h1 := hI.out; have h2 := hS.out
                  rw [List.take_of_length_le (by rw [← HN2.out]; omega)] at h1 h2
                  rw [HE3.out, if_neg (by rw [h1]; simp), h2])
                clear hI hS HE3
                go_wp2
                go_ret2
                exact ⟨by rw [hre.out]; rfl, E2.out.trans hE1.out⟩
end Go.Proofs.Ytcgheakadfjofaa
