/- GapFolded, by its contract. -/
import Derived.Test.YtclcippfodjfeaaL2
import Derived.Test.YtclcippfodjfeaaL10
import Derived.Deep.LoopGhost
namespace Go.Proofs.Ytclcippfodjfeaa
open Go.RowKit
set_option linter.unusedVariables false
set_option linter.unusedSimpArgs false
/-- None of the first k numbers is number i. -/
def onceTo (row : List Int) (i k : Nat) : Bool := (List.range k).all fun j => decide (rAt row j ≠ rAt row i)
theorem once_succ (row : List Int) (i k : Nat) : onceTo row i (k + 1) = (onceTo row i k && !decide (rAt row k = rAt row i)) := by
  unfold onceTo; rw [List.range_succ, List.all_append]; simp
def ddTo (row : List Int) : Nat → List Int
  | 0 => []
  | k + 1 => if onceTo row k k = true then ddTo row k ++ [rAt row k] else ddTo row k
theorem dd_mem {row : List Int} : ∀ k, k ≤ row.length → ∀ x ∈ ddTo row k, x ∈ row ∧ ∃ i, i < k ∧ x = rAt row i
  | 0, _, x, hx => by cases hx
  | k + 1, h, x, hx => by
    unfold ddTo at hx
    split at hx
    · rcases List.mem_append.1 hx with h1 | h1
      · obtain ⟨h2, i, h3, h4⟩ := dd_mem k (by omega) x h1
        exact ⟨h2, i, by omega, h4⟩
      · simp at h1
        subst h1
        refine ⟨?_, k, by omega, rfl⟩
        unfold rAt
        rw [List.getD_eq_getElem?_getD, List.getElem?_eq_getElem (show k < row.length by omega)]
        exact List.getElem_mem _
    · obtain ⟨h2, i, h3, h4⟩ := dd_mem k (by omega) x hx
      exact ⟨h2, i, by omega, h4⟩
theorem dd_nodup {row : List Int} : ∀ k, k ≤ row.length → (ddTo row k).Nodup
  | 0, _ => List.nodup_nil
  | k + 1, h => by
    unfold ddTo
    split
    · rename_i ho
      rw [List.nodup_append]
      refine ⟨dd_nodup k (by omega), by simp, fun a ha b hb e => ?_⟩
      simp at hb
      subst hb
      obtain ⟨-, i, hi, he⟩ := dd_mem k (by omega) a ha
      unfold onceTo at ho
      rw [List.all_eq_true] at ho
      have := ho i (List.mem_range.2 hi)
      simp at this
      exact this (by rw [← he]; exact e)
    · exact dd_nodup k (by omega)
theorem dd_len (row : List Int) : ∀ k, (ddTo row k).length ≤ k
  | 0 => Nat.le_refl _
  | k + 1 => by
    have := dd_len row k
    unfold ddTo
    split
    · rw [List.length_append, List.length_singleton]; omega
    · omega
theorem chk_dd {row : List Int} (hc : chkR row = 0) : chkR (ddTo row row.length) = 0 := by
  obtain ⟨h1, h2⟩ := chkR_ok.1 hc
  have h3 := dd_len row row.length
  exact chkR_ok.2 ⟨by omega, fun x hx => h2 x (dd_mem _ (Nat.le_refl _) x hx).1⟩
theorem chk_rev {row : List Int} (hc : chkR row = 0) : chkR row.reverse = 0 := by
  obtain ⟨h1, h2⟩ := chkR_ok.1 hc
  exact chkR_ok.2 ⟨by simpa using h1, fun x hx => h2 x (List.mem_reverse.1 hx)⟩
/-- How many of the first p numbers are at least k. -/
def cntI (xs : List Int) (k : Int) (p : Nat) : Nat := (xs.take p).countP fun v => decide (k ≤ v)
theorem cntI_succ {xs : List Int} {k x : Int} {p : Nat} (h : xs[p]? = some x) : cntI xs k (p + 1) = cntI xs k p + (if k ≤ x then 1 else 0) := by
  unfold cntI
  rw [List.take_add_one, h]
  simp [List.countP_append, List.countP_cons]
theorem cntI_le (xs : List Int) (k : Int) (p : Nat) : cntI xs k p ≤ p := by
  unfold cntI
  refine Nat.le_trans List.countP_le_length ?_
  rw [List.length_take]; omega
theorem cntI_all (row : List Int) (k : Nat) : cntI (shapeI row) (k : Int) (shapeI row).length = cntGe row k := by
  unfold cntI cntGe shapeI
  rw [List.take_length, List.countP_map]
  refine List.countP_congr fun x _ => ?_
  simp
theorem fold_facts {xs : List Int} (hd : xs.Nodup) (hn : xs.length ≤ 30) (j : Nat) : (∀ t, (shapeI xs.reverse)[j]? = some t → t = (cntGe xs (j + 1) : Int)) ∧ ((tab xs.reverse).length ≤ j → cntGe xs (j + 1) = 0) := by
  have h1 := folded hd hn j
  have h2 := folded hd hn (j + 1)
  have h3 := colS_step xs j
  refine ⟨fun t ht => ?_, fun h => ?_⟩
  · have hj : j < (tab xs.reverse).length := by
      have := (List.getElem?_eq_some_iff.1 ht).1
      unfold shapeI shapeL at this
      simpa using this
    obtain ⟨s, q1, -, -, q4⟩ := shape_at hj
    rw [ht] at q1
    cases q1
    omega
  · rw [sumk_all j _ h] at h1
    rw [sumk_all (j + 1) _ (by omega)] at h2
    omega
attribute [local go_sem] Oper.semAt_some
set_option maxRecDepth 100000 in
set_option maxHeartbeats 4000000 in
theorem folded14 (a : Option Addr) (cap : Nat) (row : List Int) (w : World) (hlen : row.length ≤ cap ∧ cap ≤ 9223372036854775807) (hr : row.length ≤ 5000 → Reads w (.slice a row.length cap) row) :
    Calls Try.prog 14 #[.slice a row.length cap] w fun e w' => e = .returned (.bool true) ∧ Ext w w' := by
  obtain ⟨n, hn⟩ : ∃ n, n = row.length := ⟨_, rfl⟩
  rw [← hn] at hlen hr ⊢
  rcases fine43 a n cap row hn w hr with F | ⟨hc, hR, F⟩
  · have HF := Lib.hid F
    clear F hr hn
    go_enter Try.func14, Try.ntmps14
    have HE := Lib.hid (Ext.refl w)
    go_wp2_with fail
    refine (HF.out _ HE.out).mono ?_
    rintro e w1 ⟨rfl, rfl⟩
    go_wp2_with fail
    refine (works18 _).mono ?_
    rintro e w99 ⟨rfl, hb⟩
    have HE := Lib.hid (HE.out.trans hb)
    clear hb
    go_wp2
    go_ret
    exact ⟨rfl, HE.out⟩
  have HF := Lib.hid F
  clear F hr
  obtain ⟨hn30, -⟩ := chkR_ok.1 hc
  rw [← hn] at hn30
  have HC := Lib.hid hc; have HN := Lib.hid hn; have HR := Lib.hid hR
  clear hc hR hn
  go_enter Try.func14, Try.ntmps14
  have HE := Lib.hid (Ext.refl w)
  go_wp2_with fail
  refine (HF.out _ HE.out).mono ?_
  rintro e w1 ⟨rfl, rfl⟩
  go_wp2
  go_loopg [3, 4] n (fun g v i wr => ∃ q : Nat, q + g = n ∧ i = .int .i64 (q : Int) ∧ Hid (OwnI 2 w.heap.size wr v (ddTo row q)) ∧ Hid (Ext w wr))
  case atStart => exact ⟨0, by omega, rfl, OwnI.nil _ _ _, Ext.refl _⟩
  case round =>
    obtain ⟨q, hqg, rfl, hO, hE⟩ := hrel
    obtain ⟨ua, uc, rfl, -⟩ := hO.out.shape
    obtain ⟨ul, hul⟩ : ∃ ul, ul = (ddTo row q).length := ⟨_, rfl⟩
    have hull : ul ≤ q := by rw [hul]; exact dd_len row q
    rw [← hul] at hO ⊢
    have HUL := Lib.hid hul
    clear hul
    by_cases hlt : q < n
    · have hqa : (0 : Int) ≤ (q : Int) := by omega
      have hqb : (q : Int) < (n : Int) := by omega
      have HOX := Lib.hid (fun (X : World) (h : Ext wr X) => hO.out.ext h)
      have HEX := Lib.hid (fun (X : World) (h : Ext wr X) => hE.out.trans h)
      have HCA := Lib.hid (fun (X : World) (h : Ext wr X) => (HR.out.ext (hE.out.trans h)).at (k := q) (by rw [← HN.out]; exact hlt))
      obtain ⟨b1, off1, x, rfl, hx, -⟩ := HR.out.at (k := q) (by rw [← HN.out]; exact hlt)
      have HX := Lib.hid hx
      have HQX := Lib.hid (show rAt row q = x from tAt_some hx)
      clear hx hO hE
      obtain ⟨W0, hW0⟩ : ∃ W0, W0 = wr := ⟨_, rfl⟩
      rw [← hW0] at HOX HEX HCA ⊢
      clear hW0
      go_wp2
      go_loopg [5, 6] q (fun g2 on j wy => ∃ p : Nat, p + g2 = q ∧ j = .int .i64 (p : Int) ∧ on = .bool (onceTo row q p) ∧ Hid (Ext W0 wy))
      case atStart => exact ⟨0, by omega, rfl, by simp [onceTo], Ext.refl _⟩
      case round =>
        obtain ⟨p, hpg, rfl, rfl, hE⟩ := hrel
        by_cases hlp : p < q
        · have HPN := Lib.hid hlp
          have hpa : (0 : Int) ≤ (p : Int) := by omega
          have hpb : (p : Int) < (n : Int) := by omega
          have hpc : (p : Int) < (q : Int) := by omega
          obtain ⟨b2, off2, x2, hb2, hx2, hcx⟩ := HCA.out _ hE.out
          cases hb2
          have hxx : x2 = x := by have := HX.out; rw [hx2] at this; cases this; rfl
          subst hxx
          obtain ⟨b3, off3, z, hb3, hz, hcz⟩ := (HR.out.ext (HEX.out _ hE.out)).at (k := p) (by rw [← HN.out]; omega)
          cases hb3
          have hls := once_succ row q p
          rw [show rAt row p = z from tAt_some hz, HQX.out] at hls
          have HLS := Lib.hid hls
          obtain ⟨lq, hlq⟩ : ∃ lq, lq = onceTo row q p := ⟨_, rfl⟩
          rw [← hlq] at HLS ⊢
          have HE2 := Lib.hid hE.out
          clear hx2 hz hls hlq
          cases lq
          · have HG := Lib.hid (show onceTo row q (p + 1) = false from by rw [HLS.out]; rfl)
            go_upto_region 11 with fail
            go_quiet (fail)
            go_wp2
            go_roundg (q - (p + 1))
            case measure => have := HPN.out; omega
            case rel => exact ⟨p + 1, by have := HPN.out; omega, by go_num, by rw [HG.out], HE2.out.trans ((Ext.refl _).drewN _)⟩
          · by_cases hle : z = x2
            · have d1 : (z == x2) = true := by simpa using hle
              have d2 : (z != x2) = false := by simpa using hle
              have d3 : decide (z = x2) = true := decide_eq_true hle
              have HG := Lib.hid (show onceTo row q (p + 1) = false from by rw [HLS.out, d3]; rfl)
              clear hle
              go_upto_region 11 with fail
              go_quiet (fail)
              go_wp2
              go_roundg (q - (p + 1))
              case measure => have := HPN.out; omega
              case rel => exact ⟨p + 1, by have := HPN.out; omega, by go_num, by rw [HG.out], HE2.out.trans ((Ext.refl _).drewN _)⟩
            · have d1 : (z == x2) = false := by simpa using hle
              have d2 : (z != x2) = true := by simpa using hle
              have d3 : decide (z = x2) = false := decide_eq_false hle
              have HG := Lib.hid (show onceTo row q (p + 1) = true from by rw [HLS.out, d3]; rfl)
              go_upto_region 11 with fail
              go_quiet (fail)
              go_wp2
              go_roundg (q - (p + 1))
              case measure => have := HPN.out; omega
              case rel => exact ⟨p + 1, by have := HPN.out; omega, by go_num, by rw [HG.out], HE2.out.trans ((Ext.refl _).drewN _)⟩
        · obtain rfl : p = q := by omega
          have hOw := HOX.out _ hE.out
          have hEw := HEX.out _ hE.out
          obtain ⟨b2, off2, x2, hb2, hx2, hcx⟩ := HCA.out _ hE.out
          cases hb2
          have hxx : x2 = x := by have := HX.out; rw [hx2] at this; cases this; rfl
          subst hxx
          clear hx2
          obtain ⟨on, hon⟩ : ∃ on, on = onceTo row p p := ⟨_, rfl⟩
          rw [← hon]
          cases on
          · have HD := Lib.hid (show ddTo row (p + 1) = ddTo row p from by
              show (if _ then _ else _) = _
              rw [if_neg (by rw [← hon]; simp)])
            have HOW := Lib.hid hOw; have HEW := Lib.hid hEw
            clear hon hOw hEw
            go_wp2
            go_roundg (n - (p + 1))
            case measure => omega
            case rel => exact ⟨p + 1, by omega, by go_num, (by rw [HD.out]; exact HOW.out : OwnI _ _ _ _ _), HEW.out⟩
          · have HD := Lib.hid (show ddTo row (p + 1) = ddTo row p ++ [x2] from by
              show (if _ then _ else _) = _
              rw [if_pos (by rw [← hon]), HQX.out])
            have HEW := Lib.hid hEw
            have hql : (ddTo row p).length ≤ 5000 := by rw [← HUL.out]; omega
            have HOW := Lib.hid hOw
            clear hon hOw
            go_wp2_with (at_builtin; first
              | (refine appendN Try.underlying22 Try.info2 wr w.heap.size (ddTo row p) x2 _ _ _ wr.heap.size (by simp) rfl rfl rfl HOW.out (Below.size hEw) hql rfl ?_
                 intro v6 w6 hO6 hB6
                 have HO6 := Lib.hid hO6
                 have HE6 := Lib.hid (show Ext w w6 from Below.trans hEw hB6)
                 clear hO6 hB6)
              | fail)
            go_roundg (n - (p + 1))
            case measure => omega
            case rel => exact ⟨p + 1, by omega, by go_num, (by rw [HD.out]; exact HO6.out : OwnI _ _ _ _ _), HE6.out⟩
    · obtain rfl : q = n := by omega
      have hck := chk_dd HC.out
      have hnd := dd_nodup (row := row) q (by rw [← HN.out]; exact Nat.le_refl _)
      rw [← HN.out] at hck
      have hrx := hO.out.reads (by rw [← HUL.out]; omega)
      have hul2 := HUL.out
      obtain ⟨xs, hxs⟩ : ∃ xs, xs = ddTo row q := ⟨_, rfl⟩
      rw [← hxs] at hck hnd hrx hul2
      have HE := Lib.hid hE.out
      have HRX := Lib.hid hrx
      have HF1 := Lib.hid (fun j => fold_facts hnd (by rw [← hul2]; omega) j)
      have hx30 : xs.length ≤ 30 := by rw [← hul2]; omega
      have ht1 := tab_le xs; have ht2 := tab_le xs.reverse
      rw [List.length_reverse, ← hul2] at ht2
      rw [← hul2] at ht1
      have HCK := Lib.hid hck; have HUX := Lib.hid hul2
      have HS30 := Lib.hid (fun j => cntI_all xs j)
      clear hxs hck hnd hrx hO hE hul2 HUL
      obtain ⟨W, hW⟩ : ∃ W, W = wr := ⟨_, rfl⟩
      subst hW
      have C27a := Lib.hid (fun (X : World) (h : Ext W X) => shape_of HCK.out _ X (HRX.out.ext h))
      have C46 := Lib.hid (fun (X : World) (h : Ext W X) => back46 _ xs X (HRX.out.ext h))
      have C27b := Lib.hid (fun (X : World) (v : Value) (h : Reads X v xs.reverse) => shape_of (chk_rev HCK.out) v X h)
      have HZ := Lib.hid (Ext.refl W)
      go_wp2_with fail
      refine (C27a.out _ HZ.out).mono ?_
      rintro e w2 ⟨sa, sn, sc, hsn, rfl, hx, hb⟩
      have HZ := Lib.hid (HZ.out.trans hb)
      have HS := Lib.hid hx; have HSN := Lib.hid hsn
      clear hb hx C27a hsn
      go_wp2_with fail
      refine (C46.out _ HZ.out).mono ?_
      rintro e w3 ⟨rv, rfl, hx, hb⟩
      obtain ⟨_, rva, rvc, rfl⟩ := hx.shape
      rw [List.length_reverse, ← HUX.out] at hx ⊢
      have HZ := Lib.hid (HZ.out.trans hb)
      have HS := Lib.hid (HS.out.ext hb)
      have HRV := Lib.hid hx
      clear hb hx C46
      go_wp2_with fail
      refine (C27b.out _ _ HRV.out).mono ?_
      rintro e w4 ⟨ta, tn, tc, htn, rfl, hx, hb⟩
      have HZ := Lib.hid (HZ.out.trans hb)
      have HS := Lib.hid (HS.out.ext hb)
      have HT := Lib.hid hx
      rw [← HSN.out] at ht1
      rw [← htn] at ht2
      have hsl : (shapeI xs).length = sn := HS.out.len.symm
      have htl : (shapeI xs.reverse).length = tn := HT.out.len.symm
      have HTN := Lib.hid htn
      have HEW := Lib.hid (HE.out.trans HZ.out)
      have k0 : decide ((sn : Int) > ul) = false := by simp; omega
      have k0b : decide (ul < sn) = false := by simp; omega
      have k1 : decide ((tn : Int) > ul) = false := by simp; omega
      have k1b : decide (ul < tn) = false := by simp; omega
      clear hb hx C27b HRV htn HZ
      go_wp2
      go_loopg [11] ul (fun g kk wr => ∃ j : Nat, j + g = ul ∧ kk = .int .i64 ((j : Int) + 1) ∧ Hid (Ext w4 wr))
      case atStart => exact ⟨0, by omega, by simp, Ext.refl _⟩
      case round =>
        obtain ⟨j, hjg, rfl, hE⟩ := hrel
        by_cases hlj : j < ul
        · have hja : decide ((j : Int) + 1 ≤ (ul : Int)) = true := by simp; omega
          have hjb : (j : Int) + 1 ≤ (ul : Int) := by omega
          have hjc : j + 1 ≤ ul := hlj
          have HJL := Lib.hid hlj
          have HEJ := Lib.hid (fun (X : World) (h : Ext wr X) => hE.out.trans h)
          have HF2 := Lib.hid (HF1.out j)
          have HCA := Lib.hid (HS30.out (j + 1))
          have wj1 : IntKind.i64.wrap ((j : Int) + 1) = (j : Int) + 1 := wrapi64 _ (by omega) (by omega)
          have wj2 : IntKind.i64.wrap ((j : Int) + 1 + 1) = (j : Int) + 1 + 1 := wrapi64 _ (by omega) (by omega)
          obtain ⟨W0, hW0⟩ : ∃ W0, W0 = wr := ⟨_, rfl⟩
          rw [← hW0] at HEJ ⊢
          clear hW0 hE hlj
          go_wp2
          go_loopg [12, 13] sn (fun g2 c i wy => ∃ p : Nat, p + g2 = sn ∧ i = .int .i64 (p : Int) ∧ c = .int .i64 ((cntI (shapeI xs) ((j : Int) + 1) p : Nat) : Int) ∧ Hid (Ext W0 wy))
          case atStart => exact ⟨0, by omega, rfl, by simp [cntI], Ext.refl _⟩
          case round =>
            obtain ⟨p, hpg, rfl, rfl, hE⟩ := hrel
            by_cases hlp : p < sn
            · have hpa : (0 : Int) ≤ (p : Int) := by omega
              have hpb : (p : Int) < (sn : Int) := by omega
              have HPN := Lib.hid hlp
              obtain ⟨b2, off2, x, rfl, hx, hcx⟩ := (HS.out.ext (HEJ.out _ hE.out)).at (k := p) (by rw [hsl]; exact hlp)
              have hcs := cntI_succ (k := (j : Int) + 1) hx
              have hcl := cntI_le (shapeI xs) ((j : Int) + 1) p
              have HCS := Lib.hid hcs
              obtain ⟨c, hcc⟩ : ∃ c, c = cntI (shapeI xs) ((j : Int) + 1) p := ⟨_, rfl⟩
              rw [← hcc] at HCS hcl ⊢
              have wc : IntKind.i64.wrap ((c : Int) + 1) = (c : Int) + 1 := wrapi64 _ (by omega) (by omega)
              have HE2 := Lib.hid hE.out
              clear hx hcs hcc
              by_cases hge : (j : Int) + 1 ≤ x
              · have d1 : decide (x ≥ (j : Int) + 1) = true := decide_eq_true hge
                have d2 : decide ((j : Int) + 1 ≤ x) = true := decide_eq_true hge
                have HG := Lib.hid (show ((cntI (shapeI xs) ((j : Int) + 1) (p + 1) : Nat) : Int) = (c : Int) + 1 from by rw [HCS.out, if_pos hge]; push_cast; rfl)
                go_wp2
                go_roundg (sn - (p + 1))
                case measure => have := HPN.out; omega
                case rel => exact ⟨p + 1, by have := HPN.out; omega, by go_num, by rw [HG.out], HE2.out⟩
              · have d1 : decide (x ≥ (j : Int) + 1) = false := decide_eq_false hge
                have d2 : decide ((j : Int) + 1 ≤ x) = false := decide_eq_false hge
                have HG := Lib.hid (show ((cntI (shapeI xs) ((j : Int) + 1) (p + 1) : Nat) : Int) = (c : Int) from by rw [HCS.out, if_neg hge]; rfl)
                go_wp2
                go_roundg (sn - (p + 1))
                case measure => have := HPN.out; omega
                case rel => exact ⟨p + 1, by have := HPN.out; omega, by go_num, by rw [HG.out], HE2.out⟩
            · obtain rfl : p = sn := by omega
              have hca := HCA.out
              rw [hsl, Int.natCast_add, Int.natCast_one] at hca
              have hcl := cntI_le (shapeI xs) ((j : Int) + 1) p
              rw [hca] at hcl ⊢
              have HE2 := Lib.hid (HEJ.out _ hE.out)
              obtain ⟨f1, f2⟩ := HF2.out
              rw [← HTN.out] at f2
              generalize cntGe xs (j + 1) = c at *
              by_cases hjt : j < tn
              · obtain ⟨b3, off3, z, rfl, hz, hcz⟩ := (HT.out.ext HE2.out).at (k := j) (by rw [htl]; exact hjt)
                obtain rfl := f1 z hz
                have e1 : decide ((j : Int) + 1 ≤ (tn : Int)) = true := by simp; omega
                have e2 : decide ((j : Int) + 1 > (tn : Int)) = false := by simp; omega
                have e3 : decide ((tn : Int) < (j : Int) + 1) = false := by simp; omega
                have e4 : (j : Int) + 1 ≤ (tn : Int) := by omega
                have hja0 : (0 : Int) ≤ (j : Int) := by omega
                have hjt0 : (j : Int) < (tn : Int) := by omega
                clear f1 f2 hz hca
                go_wp2
                go_roundg (ul - (j + 1))
                case measure => have := HJL.out; omega
                case rel => exact ⟨j + 1, by have := HJL.out; omega, by rw [show ((j + 1 : Nat) : Int) + 1 = (j : Int) + 1 + 1 from by push_cast; rfl], HE2.out⟩
              · obtain rfl := f2 (by omega)
                have e1 : decide ((j : Int) + 1 ≤ (tn : Int)) = false := by simp; omega
                have e2 : decide ((j : Int) + 1 > (tn : Int)) = true := by simp; omega
                have e3 : decide ((tn : Int) < (j : Int) + 1) = true := by simp; omega
                have e4 : ¬ (j : Int) + 1 ≤ (tn : Int) := by omega
                clear f1 f2 hca
                go_wp2
                go_roundg (ul - (j + 1))
                case measure => have := HJL.out; omega
                case rel => exact ⟨j + 1, by have := HJL.out; omega, by rw [show ((j + 1 : Nat) : Int) + 1 = (j : Int) + 1 + 1 from by push_cast; rfl], HE2.out⟩
        · have hjz : ¬ (j : Int) + 1 ≤ (ul : Int) := by omega
          have hjy : decide ((j : Int) + 1 ≤ (ul : Int)) = false := decide_eq_false hjz
          have HE := Lib.hid (HEW.out.trans hE.out)
          go_wp2_with fail
          refine (works18 _).mono ?_
          rintro e w99 ⟨rfl, hb⟩
          have HE := Lib.hid (HE.out.trans hb)
          clear hb
          go_wp2
          go_ret
          exact ⟨rfl, HE.out⟩
end Go.Proofs.Ytclcippfodjfeaa
