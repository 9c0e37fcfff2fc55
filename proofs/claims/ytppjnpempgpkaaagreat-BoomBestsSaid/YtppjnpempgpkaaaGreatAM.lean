/- The reference: kind, by its contract. The reference: among, by its contract. -/
import Derived.Test.YtppjnpempgpkaaaGreatSO
import Derived.Test.YtppjnpempgpkaaaGreatBS
import Derived.Test.YtppjnpempgpkaaaGreatR2
import Derived.Test.YtppjnpempgpkaaaGreatH7
import Derived.Test.YtppjnpempgpkaaaGreatH6
import Derived.Test.YtppjnpempgpkaaaGreatN3
import Derived.Test.YtppjnpempgpkaaaGreatK1
namespace Go.Proofs.YtppjnpempgpkaaaGreat
open Go.RowKit Go.Shelf
set_option linter.unusedVariables false
set_option linter.unusedSimpArgs false
attribute [local go_sem] Oper.semAt_some

def cntB (L : List (List Int)) (c : Int) : Nat := L.countP fun l => hasB l c
theorem cntB_snoc (L : List (List Int)) (l : List Int) (c : Int) : cntB (L ++ [l]) c = cntB L c + if hasB l c = true then 1 else 0 := by
  unfold cntB; rw [List.countP_append]; simp [List.countP_cons]
/-- The kind of a cell for lists of cells. -/
def kindV (L : List (List Int)) (c : Int) : Int := if cntB L c = L.length then 2 else if cntB L c = 0 then 0 else 1
set_option maxRecDepth 100000 in
set_option maxHeartbeats 4000000 in
theorem kindL_c (a : Option Addr) (n cap : Nat) (L : List (List Int)) (c : Int) (w : World) (hL : ReadsLL w (.slice a n cap) L) : Calls Tryz.prog 54 #[.slice a n cap, .int .i64 c] w fun e w' => e = .returned (.int .i64 (kindV L c)) ∧ Ext w w' := by
  have hl2 := hL.1
  have HN := Lib.hid (show n = L.length from by obtain ⟨-, a', cap', e, -⟩ := hL; cases e; rfl)
  have HL := Lib.hid hL
  have hn2 : n ≤ 20001 := by have := HN.out; omega
  obtain ⟨kv, hkv⟩ : ∃ v, v = kindV L c := ⟨_, rfl⟩
  have HKV := Lib.hid hkv
  rw [← hkv]
  clear hL hkv hl2
  go_enter Tryz.func54, Tryz.ntmps54
  go_wp2
  go_loopw [5, 6] (fun m i wr => ∃ k : Nat, k ≤ n ∧ i = .int .i64 (k : Int) ∧ m = .int .i64 (cntB (L.take k) c : Int) ∧ Hid (wr = w)) (fun m i wr => n - (intOf i).toNat)
  case atStart => exact ⟨0, Nat.zero_le _, rfl, rfl, (by first | exact Lib.hid rfl | exact Lib.hid trivial)⟩
  case round =>
    obtain ⟨k, hk, rfl, rfl, hW⟩ := hrel
    obtain rfl := hW.out
    by_cases hlt : k < n
    · have HLT := Lib.hid hlt
      obtain ⟨b, off, l, u, m, cc, rfl, hl, hcell, hr⟩ := HL.out.at (i := k) (by have := HN.out; omega)
      have hst := cntB_snoc (L.take k) l c
      rw [← take_snoc hl] at hst
      have hle : cntB (L.take k) c ≤ k := by
        unfold cntB
        exact Nat.le_trans List.countP_le_length (by rw [List.length_take]; omega)
      have HQ := Lib.hid (has_c _ l c _ hr)
      have HST := Lib.hid hst
      generalize cntB (L.take k) c = q at *
      have hka : (0 : Int) ≤ (k : Int) := by omega
      have hkb : (k : Int) < (n : Int) := by omega
      have hkt : (k : Int).toNat = k := by omega
      clear hl hr hst
      generalize hasB l c = hb at *
      go_wp2_with fail
      refine Calls.mono HQ.out ?_
      intro e Y h1; obtain ⟨h1, hY⟩ := h1; subst h1; subst hY
      have hlt := HLT.out
      cases hb with
      | true =>
        have HS := Lib.hid (show (cntB (L.take (k + 1)) c : Int) = (q : Int) + 1 from by rw [HST.out]; simp)
        clear HST HQ
        go_wp2
        go_roundw
        case rel => exact ⟨k + 1, by have := HLT.out; omega, by go_num, by rw [HS.out], (by first | exact Lib.hid rfl | exact Lib.hid trivial)⟩
        case measure => have := HLT.out; simp [intOf]; omega
      | false =>
        have HS := Lib.hid (show (cntB (L.take (k + 1)) c : Int) = (q : Int) from by rw [HST.out]; simp)
        clear HST HQ
        go_wp2
        go_roundw
        case rel => exact ⟨k + 1, by have := HLT.out; omega, by go_num, by rw [HS.out], (by first | exact Lib.hid rfl | exact Lib.hid trivial)⟩
        case measure => have := HLT.out; simp [intOf]; omega
    · have hkn : k = n := by omega
      subst k
      rw [show L.take n = L from List.take_of_length_le (by have := HN.out; omega)]
      obtain ⟨q, hq⟩ : ∃ q, q = cntB L c := ⟨_, rfl⟩
      have hv := HKV.out
      unfold kindV at hv
      rw [← hq, ← HN.out] at hv
      rw [← hq]
      have HV := Lib.hid hv
      clear hq hv
      by_cases h1 : q = n
      · have HR := Lib.hid (show kv = 2 from by rw [HV.out, if_pos h1])
        subst h1
        go_wp2
        go_ret
        exact ⟨by rw [HR.out]; rfl, Ext.refl _⟩
      · have hd1 : decide ((q : Int) = (n : Int)) = false := decide_eq_false (by omega)
        have hd2 : ¬ (q : Int) = (n : Int) := by omega
        by_cases h0 : q = 0
        · have HR := Lib.hid (show kv = 0 from by rw [HV.out, if_neg h1, if_pos h0])
          subst h0
          go_wp2
          go_ret
          exact ⟨by rw [HR.out]; rfl, Ext.refl _⟩
        · have HR := Lib.hid (show kv = 1 from by rw [HV.out, if_neg h1, if_neg h0])
          have h3 : (1 : Int) ≤ (q : Int) := by omega
          clear HV
          go_wp2
          all_goals
            go_ret
            exact ⟨by rw [HR.out]; first | rfl | (show Ending.returned (.int .i64 _) = _; congr 2; omega), Ext.refl _⟩
end Go.Proofs.YtppjnpempgpkaaaGreat
namespace Go.Proofs.YtppjnpempgpkaaaGreat
open Go.RowKit Go.Shelf
set_option linter.unusedVariables false
set_option linter.unusedSimpArgs false
attribute [local go_sem] Oper.semAt_some

/-- All best waters of the reference. -/
def allB {W H : Nat} {wn kn : List Nat} (hv : VP W H wn kn) : List (List Nat) := (stB hv (freN wn kn (W * H)) (2 ^ (freN wn kn (W * H)).length)).2
def amN (L : List (List Int)) (least : Int) (m : Nat) : List Nat := (List.range m).filter fun i => decide (least ≤ kindV L (i : Int))
theorem amN_succ (L : List (List Int)) (least : Int) (k : Nat) : amN L least (k + 1) = amN L least k ++ if decide (least ≤ kindV L (k : Int)) = true then [k] else [] := by
  unfold amN
  rw [List.range_succ, List.filter_append, List.filter_cons, List.filter_nil]
theorem amN_len (L : List (List Int)) (least : Int) (k : Nat) : (amN L least k).length ≤ k := filter_len k _
set_option maxRecDepth 100000 in
set_option maxHeartbeats 4000000 in
theorem among_c (W H nw cw nk ck : Nat) (aw ak : Option Addr) (wn kn : List Nat) (hv : VP W H wn kn) (hfr : (freN wn kn (W * H)).length ≤ 9) (least : Int) (w : World) (hw : Reads w (.slice aw nw cw) (natI wn)) (hk : Reads w (.slice ak nk ck) (natI kn)) :
    Calls Tryz.prog 50 #[.agg #[.int .i64 (W : Int), .int .i64 (H : Int), .slice aw nw cw, .slice ak nk ck], .int .i64 least] w fun e w' => ∃ u, e = .returned u ∧ Reads w' u (natI (amN ((allB hv).map natI) least (W * H))) ∧ Ext w w' := by
  have HBS := Lib.hid (fun (X : World) (h : Ext w X) => bests_c W H nw cw nk ck aw ak wn kn hv hfr X (hw.ext h) (hk.ext h))
  have hW8 := hv.w8; have hH8 := hv.h8
  have HCE := Lib.hid (fun (X : World) => rcells_c W H nw cw nk ck aw ak hW8 hH8 X)
  have h64 := hv.n64
  rw [show (stB hv (freN wn kn (W * H)) (2 ^ (freN wn kn (W * H)).length)).2 = allB hv from rfl] at HBS
  generalize (allB hv).map natI = L at *
  obtain ⟨m, hm⟩ : ∃ m, m = W * H := ⟨_, rfl⟩
  rw [← hm] at HCE h64 ⊢
  clear hw hk hm hW8 hH8 hfr hv
  obtain ⟨w1, hw1⟩ : ∃ w1, w1 = w.alloc (.cells #[.int .i64 (W : Int), .int .i64 (H : Int), .slice aw nw cw, .slice ak nk ck] 24) := ⟨_, rfl⟩
  have HE := Lib.hid (show Ext w w1 from by rw [hw1]; exact (Ext.refl w).alloc _)
  have B0 := Lib.hid (show w1.heap[w.heap.size]? = some (.cells #[.int .i64 (W : Int), .int .i64 (H : Int), .slice aw nw cw, .slice ak nk ck] 24 (0, 0)) from by rw [hw1]; exact heap_alloc_new w _)
  go_enter Tryz.func50, Tryz.ntmps50
  obtain ⟨z0, z1, z2, z3⟩ := cells4 B0.out
  go_upto_region 1 with fail
  rw [← hw1]
  clear hw1
  go_wp2_with fail
  refine (HBS.out _ HE.out).mono ?_
  rintro e w2 ⟨la, ln, lc, rfl, hr1, h2⟩
  have HE := Lib.hid (HE.out.trans h2); have B0 := Lib.hid (block_ext h2 B0.out)
  have HLL := Lib.hid hr1; have HC := Lib.hid (Ext.refl w2)
  clear h2 hr1 z0 z1 z2 z3 HBS
  go_wp2
  go_loopw [6, 7] (fun u i wr => ∃ k : Nat, k ≤ m ∧ i = .int .i64 (k : Int) ∧ Hid (OwnI 3 w2.heap.size wr u (natI (amN L least k))) ∧ Hid (Ext w2 wr)) (fun u i wr => m - (intOf i).toNat)
  case atStart => exact ⟨0, Nat.zero_le _, rfl, Lib.hid (OwnI.nil _ _ _), HC⟩
  case round =>
    clear HC
    obtain ⟨k, hk, rfl, HO, HC⟩ := hrel
    obtain ⟨z0, z1, z2, z3⟩ := cells4 (block_ext HC.out B0.out)
    go_wp2_with fail
    refine (HCE.out _).mono ?_
    rintro e V1 ⟨rfl, h2⟩
    have HC := Lib.hid (HC.out.trans h2); have HO := Lib.hid (HO.out.ext h2)
    clear h2 z0 z1 z2 z3
    by_cases hlt : k < m
    · have HLT := Lib.hid hlt
      have hka : (k : Int) < (m : Int) := by omega
      have HK := Lib.hid (kindL_c la ln lc L (k : Int) V1 (HLL.out.ext HC.out))
      have HSU := Lib.hid (amN_succ L least k)
      have HLEN := Lib.hid (show (natI (amN L least k)).length ≤ 20000 from by rw [natI_len]; have := amN_len L least k; omega)
      generalize kindV L (k : Int) = kv at *
      go_wp2_with fail
      refine HK.out.mono ?_
      rintro e V2 ⟨rfl, h2⟩
      have HC := Lib.hid (HC.out.trans h2); have HO := Lib.hid (HO.out.ext h2)
      clear h2 HK
      by_cases hle : least ≤ kv
      · have hled : decide (least ≤ kv) = true := decide_eq_true hle
        have HS3 := Lib.hid (show natI (amN L least (k + 1)) = natI (amN L least k) ++ [(k : Int)] from by rw [HSU.out, hled]; unfold natI; simp)
        clear HSU
        obtain ⟨W3, hW3⟩ : ∃ W3, W3 = V2.alloc (.cells #[.int .i64 (k : Int)] 3) := ⟨_, rfl⟩
        have hE3 : Ext V2 W3 := by rw [hW3]; exact (Ext.refl _).alloc _
        have hz3 : W3.cell? ⟨V2.heap.size, 0, none⟩ = some (.int .i64 (k : Int)) := cell_of_blk (by rw [hW3]; exact heap_alloc_new V2 _) rfl
        obtain ⟨v4, X4, hrun, ho4, hg4⟩ := appendI_run (HO.out.ext hE3) (by have := HC.out.size; have := hE3.size; omega) HLEN.out (k : Int) V2.heap.size hz3 22
        have hob := own_from (HO.out.ext hE3)
        have HO4 := Lib.hid (show OwnI 3 w2.heap.size X4 v4 (natI (amN L least (k + 1))) from by rw [HS3.out]; exact ho4)
        have HC4 := Lib.hid (show Ext w2 X4 from grown_any (HC.out.trans hE3) hg4 (fun g e => by have := hob g e; omega))
        rw [hW3] at hrun
        clear hE3 hz3 ho4 hg4 hob hW3
        have hlt := HLT.out
        go_wp2_with (first | (refine wpList_append_run rfl _ _ 22 rfl rfl rfl hrun ?_) | fail)
        go_roundw
        case rel => exact ⟨k + 1, by have := HLT.out; omega, by go_num, HO4, HC4⟩
        case measure => have := HLT.out; simp [intOf]; omega
      · have hled : decide (least ≤ kv) = false := decide_eq_false hle
        have HS3 := Lib.hid (show natI (amN L least (k + 1)) = natI (amN L least k) from by rw [HSU.out, hled]; simp)
        clear HSU
        have hlt := HLT.out
        go_wp2
        go_roundw
        case rel => exact ⟨k + 1, by have := HLT.out; omega, by go_num, by rw [HS3.out]; exact HO, HC⟩
        case measure => have := HLT.out; simp [intOf]; omega
    · have hkm : k = m := by omega
      subst k
      have HRD := Lib.hid (HO.out.reads (by rw [natI_len]; have := amN_len L least m; omega))
      clear HO
      go_wp2
      go_ret
      exact ⟨_, rfl, HRD.out, HE.out.trans HC.out⟩
end Go.Proofs.YtppjnpempgpkaaaGreat
