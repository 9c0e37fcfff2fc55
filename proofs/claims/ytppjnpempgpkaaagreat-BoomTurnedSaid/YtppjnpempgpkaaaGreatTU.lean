/- turned, by its contract. -/
import Derived.Test.YtppjnpempgpkaaaGreatSO
import Derived.Test.YtppjnpempgpkaaaGreatTN
import Derived.Test.YtppjnpempgpkaaaGreatH7
import Derived.Test.YtppjnpempgpkaaaGreatH6
import Derived.Test.YtppjnpempgpkaaaGreatN3
import Derived.Test.YtppjnpempgpkaaaGreatK1
namespace Go.Proofs.YtppjnpempgpkaaaGreat
open Go.RowKit Go.Shelf
set_option linter.unusedVariables false
set_option linter.unusedSimpArgs false
attribute [local go_sem] Oper.semAt_some

def tF (across : Bool) (W H c : Nat) : Nat := if across then acrF W H c else mirF W c
theorem tF_lt {W H c : Nat} (across : Bool) (hW : W ≤ 8) (hH : H ≤ 8) (hc : c < W * H) : tF across W H c < W * H := by
  cases across with
  | false => exact ((mirI W H hW hH).to c hc).1
  | true => have := ((acrI W H hW hH).to c hc).1; rw [show (gridP H W hH hW).n = H * W from rfl, Nat.mul_comm] at this; exact this
theorem reads_set {w X : World} {v : Value} {xs : List Int} (h : Reads w v xs) (g : Nat) (hg : ∀ b, v.ownBlock = some b → xs ≠ [] → b ≠ g) (hs : ∀ k, k < w.heap.size → k ≠ g → X.heap[k]? = w.heap[k]?) : Reads X v xs := by
  obtain ⟨hl, a, cap, rfl, hcap, h⟩ := h
  refine ⟨hl, a, cap, rfl, hcap, ?_⟩
  rcases h with h | ⟨b, off, rfl, hc⟩
  · exact .inl h
  · by_cases hne : xs = []
    · exact .inl hne
    · refine .inr ⟨b, off, rfl, fun i hi => ?_⟩
      have h1 := hc i hi
      have h2 := hs b (lt_of_cell h1) (hg b rfl hne)
      rw [← h1]
      simp only [World.cell?, h2]
theorem reads_lt {w : World} {v : Value} {xs : List Int} (h : Reads w v xs) : ∀ b, v.ownBlock = some b → xs ≠ [] → b < w.heap.size := fun b hb hne => by
  obtain ⟨hl, a, cap, rfl, hcap, h⟩ := h
  rcases h with h | ⟨b', off, rfl, hc⟩
  · exact absurd h hne
  · obtain rfl : b' = b := Option.some.inj hb
    exact lt_of_cell (hc 0 (List.length_pos_iff.2 hne))
theorem with_v (v : Value) (l : List Nat) (x : Nat) (w : World) (hr : Reads w v (natI l)) (hl : l.length ≤ 4000) : Calls Tryz.prog 34 #[v, .int .i64 (x : Int)] w fun e w' => ∃ u, e = .returned u ∧ Reads w' u (natI (insN x l)) ∧ (∀ b, u.ownBlock = some b → w.heap.size ≤ b) ∧ Ext w w' := by
  refine (with_c _ (natI l) (x : Int) w hr).mono fun e w' ⟨u, h1, h2, h3⟩ => ?_
  rw [insL_nat] at h2
  exact ⟨u, h1, h2.reads (by rw [← insL_nat, insL_len, natI_len]; omega), own_from h2, h3⟩
set_option maxRecDepth 100000 in
set_option maxHeartbeats 4000000 in
theorem lturned_c (W H nw cw nk ck : Nat) (aw ak : Option Addr) (hW : 1 ≤ W ∧ W ≤ 8) (hH : 1 ≤ H ∧ H ≤ 8) (v : Value) (l : List Nat) (hl : ∀ x ∈ l, x < W * H) (hl64 : l.length ≤ 64) (across : Bool) (w : World) (hr : Reads w v (natI l)) :
    Calls Tryz.prog 35 #[.agg #[.int .i64 (W : Int), .int .i64 (H : Int), .slice aw nw cw, .slice ak nk ck], v, .bool across] w fun e w' => ∃ u, e = .returned u ∧ Reads w' u (natI (turN (tF across W H) l)) ∧ (∀ b, u.ownBlock = some b → w.heap.size ≤ b) ∧ Ext w w' := by
  obtain ⟨_, a, cap, rfl⟩ := hr.shape
  rw [natI_len] at hr ⊢
  obtain ⟨m, hm⟩ : ∃ m, m = l.length := ⟨_, rfl⟩
  rw [← hm] at hr hl64 ⊢
  have HR := Lib.hid hr; have HM := Lib.hid hm; have HL := Lib.hid hl
  clear hr hm hl
  obtain ⟨w1, hw1⟩ : ∃ w1, w1 = w.alloc (.cells #[.int .i64 (W : Int), .int .i64 (H : Int), .slice aw nw cw, .slice ak nk ck] 24) := ⟨_, rfl⟩
  have E0 := Lib.hid (show Ext w w1 from by rw [hw1]; exact (Ext.refl w).alloc _)
  have B0 := Lib.hid (show w1.heap[w.heap.size]? = some (.cells #[.int .i64 (W : Int), .int .i64 (H : Int), .slice aw nw cw, .slice ak nk ck] 24 (0, 0)) from by rw [hw1]; exact heap_alloc_new w _)
  go_enter Tryz.func35, Tryz.ntmps35
  go_upto_region 2 with fail
  rw [← hw1]
  clear hw1
  go_wp2
  go_loopw [7, 8] (fun u i wr => ∃ k : Nat, k ≤ m ∧ i = .int .i64 (k : Int) ∧ Hid (Reads wr u (natI (turN (tF across W H) (l.take k)))) ∧ Hid (∀ b, u.ownBlock = some b → w.heap.size ≤ b) ∧ Hid (wr.heap[w.heap.size]? = some (.cells #[.int .i64 (W : Int), .int .i64 (H : Int), .slice aw nw cw, .slice ak nk ck] 24 (0, 0))) ∧ Hid (Ext w wr)) (fun u i wr => m - (intOf i).toNat)
  case atStart => exact ⟨0, Nat.zero_le _, rfl, Lib.hid (Reads.nil _), Lib.hid (fun b h => by cases h), B0, E0⟩
  case round =>
    clear B0 E0
    obtain ⟨k, hk, rfl, HO, HFR, HP, HE⟩ := hrel
    obtain ⟨z0, z1, z2, z3⟩ := cells4 HP.out
    by_cases hlt : k < m
    · obtain ⟨wb, off, x, rfl, hx, hcx⟩ := (HR.out.ext HE.out).at (k := k) (by rw [natI_len]; have := HM.out; omega)
      unfold natI at hx
      rw [List.getElem?_map] at hx
      obtain ⟨c, hc⟩ : ∃ c, l[k]? = some c := get_some (by have := HM.out; omega)
      rw [hc] at hx
      obtain rfl : ((c : Nat) : Int) = x := Option.some.inj hx
      have HLT := Lib.hid hlt
      have hcl : c < W * H := HL.out c (List.mem_of_getElem? hc)
      have HT := Lib.hid (show turN (tF across W H) (l.take (k + 1)) = insN (tF across W H c) (turN (tF across W H) (l.take k)) from by rw [take_snoc hc, turN_snoc])
      have hflt := tF_lt across hW.2 hH.2 hcl
      have hn64 : W * H ≤ 64 := Nat.mul_le_mul hW.2 hH.2
      obtain ⟨q, hq⟩ : ∃ q, q = c / W := ⟨_, rfl⟩
      obtain ⟨r, hrr⟩ : ∃ r, r = c % W := ⟨_, rfl⟩
      obtain ⟨a1, a2, a3⟩ := co_of hcl
      rw [← hrr] at a1
      rw [← hq] at a2
      have hka : (0 : Int) ≤ (k : Int) := by omega
      have hkb : (k : Int) < (m : Int) := by omega
      have hkt : (k : Int).toNat = k := by omega
      have hd1 : (c : Int).tdiv (W : Int) = (q : Int) := by rw [hq]; exact (Int.ofNat_tdiv c W).symm
      have hd2 : (c : Int) / (W : Int) = (q : Int) := by rw [hq]; simp
      have hd3 : (c : Int).tmod (W : Int) = (r : Int) := by rw [hrr]; exact (Int.ofNat_tmod c W).symm
      have hd4 : (c : Int) % (W : Int) = (r : Int) := by rw [hrr]; simp
      have hd0 : ¬ (W : Int) = 0 := by omega
      have hw3 : IntKind.i64.wrap (q : Int) = (q : Int) := wrapi64 _ (by omega) (by omega)
      have hlen : (turN (tF across W H) (l.take k)).length ≤ 4000 := by rw [turN_len, List.length_take]; omega
      have HWV := Lib.hid (fun (x : Nat) (X : World) (h : Ext wr X) => with_v u7 _ x X (HO.out.ext h) hlen)
      have HD := Lib.hid (show tF across W H c = if across then r * H + q else q * W + W - 1 - r from by unfold tF acrF mirF; rw [hq, hrr])
      have HB := Lib.hid (And.intro hcl (And.intro hflt (And.intro a1 (And.intro a2 hn64))))
      clear hx hc hq hrr a3 hlen hcl hflt
      go_upto_region 5 with fail
      go_quiet (fail)
      clear hd1 hd2 hd3 hd4 hd0 hw3 hcx z0 z1 z2 z3
      obtain ⟨y0, hy0⟩ : ∃ Y, Y = wr.drewN nq := ⟨_, rfl⟩
      have hE0 : Ext wr y0 := by rw [hy0]; exact (Ext.refl _).drewN _
      have HP := Lib.hid (block_ext hE0 HP.out)
      have HE := Lib.hid (HE.out.trans hE0)
      have HX := Lib.hid hE0
      rw [← hy0]
      clear hy0 hE0 hka hkb hkt hlt
      obtain ⟨z0, z1, z2, z3⟩ := cells4 HP.out
      obtain ⟨b1, b2, b3, b4, b5⟩ := HB.out
      cases across with
      | false =>
        obtain ⟨m1, hm1⟩ : ∃ m1, m1 = q * W := ⟨_, rfl⟩
        have hmi : (q : Int) * (W : Int) = (m1 : Int) := by rw [hm1]; simp
        have hb : m1 ≤ 64 := by
          have h1 : (q + 1) * W ≤ H * W := Nat.mul_le_mul_right W (by omega)
          rw [Nat.add_mul, Nat.one_mul, ← hm1, Nat.mul_comm H W] at h1
          omega
        obtain ⟨t, ht⟩ : ∃ t, t = tF false W H c := ⟨_, rfl⟩
        have hte : t = m1 + W - 1 - r := by rw [ht, HD.out, hm1]; rfl
        rw [← ht] at HT
        have HWT := Lib.hid (HWV.out t y0 HX.out)
        have hv1 : (m1 : Int) + (W : Int) - 1 - (r : Int) = (t : Int) := by omega
        clear hm1 hte ht HD HB b1 b2
        go_wp2_with fail
        refine (HWT.out).mono ?_
        rintro e y1 ⟨u2, rfl, hr2, hf2, h2⟩
        have HFR := Lib.hid (show ∀ b, u2.ownBlock = some b → w.heap.size ≤ b from fun b h => by have := hf2 b h; have := HE.out.size; omega)
        have HP := Lib.hid (block_ext h2 HP.out)
        have HE := Lib.hid (HE.out.trans h2)
        have HO := Lib.hid (show Reads y1 u2 (natI (turN (tF false W H) (l.take (k + 1)))) from by rw [HT.out]; exact hr2)
        clear h2 hr2 hf2
        have hlt := HLT.out
        go_wp2
        go_roundw
        case rel => exact ⟨k + 1, by have := HLT.out; omega, by go_num, HO, HFR, HP, HE⟩
        case measure => have := HLT.out; simp [intOf]; omega
      | true =>
        obtain ⟨m1, hm1⟩ : ∃ m1, m1 = r * H := ⟨_, rfl⟩
        have hmi : (r : Int) * (H : Int) = (m1 : Int) := by rw [hm1]; simp
        have hb : m1 ≤ 64 := by
          have h1 : (r + 1) * H ≤ W * H := Nat.mul_le_mul_right H (by omega)
          rw [Nat.add_mul, Nat.one_mul, ← hm1] at h1
          omega
        obtain ⟨m2, hm2⟩ : ∃ m2, m2 = q * W := ⟨_, rfl⟩
        have hmi2 : (q : Int) * (W : Int) = (m2 : Int) := by rw [hm2]; simp
        have hb2 : m2 ≤ 64 := by
          have h1 : (q + 1) * W ≤ H * W := Nat.mul_le_mul_right W (by omega)
          rw [Nat.add_mul, Nat.one_mul, ← hm2, Nat.mul_comm H W] at h1
          omega
        obtain ⟨t, ht⟩ : ∃ t, t = tF true W H c := ⟨_, rfl⟩
        have hte : t = m1 + q := by rw [ht, HD.out, hm1]; rfl
        rw [← ht] at HT
        have HWT := Lib.hid (HWV.out t y0 HX.out)
        have hv1 : (m1 : Int) + (q : Int) = (t : Int) := by omega
        clear hm1 hm2 hte ht HD HB b1 b2
        go_wp2_with fail
        refine (HWT.out).mono ?_
        rintro e y1 ⟨u2, rfl, hr2, hf2, h2⟩
        have HFR := Lib.hid (show ∀ b, u2.ownBlock = some b → w.heap.size ≤ b from fun b h => by have := hf2 b h; have := HE.out.size; omega)
        have HP := Lib.hid (block_ext h2 HP.out)
        have HE := Lib.hid (HE.out.trans h2)
        have HO := Lib.hid (show Reads y1 u2 (natI (turN (tF true W H) (l.take (k + 1)))) from by rw [HT.out]; exact hr2)
        clear h2 hr2 hf2
        have hlt := HLT.out
        go_wp2
        go_roundw
        case rel => exact ⟨k + 1, by have := HLT.out; omega, by go_num, HO, HFR, HP, HE⟩
        case measure => have := HLT.out; simp [intOf]; omega
    · have hkm : k = m := by omega
      subst k
      rw [show l.take m = l from List.take_of_length_le (by have := HM.out; omega)] at HO
      go_wp2
      go_ret
      exact ⟨_, rfl, HO.out, HFR.out, HE.out⟩
theorem tF_false (W H : Nat) : tF false W H = mirF W := rfl
theorem tF_true (W H : Nat) : tF true W H = acrF W H := rfl
theorem turned_f {W H : Nat} {wn kn : List Nat} (hv : VP W H wn kn) : ∃ hv' : VP W H (turN (tF false W H) wn) (turN (tF false W H) kn), fewN hv' = fewN hv ∧ turN (tF false W H) (smL hv) = smL hv' ∧ turN (tF false W H) (lgL hv) = lgL hv' :=
  iso_all hv hv.w1 hv.h1 hv.w8 hv.h8 (mirI W H hv.w8 hv.h8)
theorem turned_t {W H : Nat} {wn kn : List Nat} (hv : VP W H wn kn) : ∃ hv' : VP H W (turN (tF true W H) wn) (turN (tF true W H) kn), fewN hv' = fewN hv ∧ turN (tF true W H) (smL hv) = smL hv' ∧ turN (tF true W H) (lgL hv) = lgL hv' :=
  iso_all hv hv.h1 hv.w1 hv.h8 hv.w8 (acrI W H hv.w8 hv.h8)
/-- The same with the list's shape. -/
theorem turned_r (W H nw cw nk ck : Nat) (aw ak : Option Addr) (hW : 1 ≤ W ∧ W ≤ 8) (hH : 1 ≤ H ∧ H ≤ 8) (v : Value) (l : List Nat) (hl : ∀ x ∈ l, x < W * H) (hl64 : l.length ≤ 64) (across : Bool) (w : World) (hr : Reads w v (natI l)) :
    Calls Tryz.prog 35 #[.agg #[.int .i64 (W : Int), .int .i64 (H : Int), .slice aw nw cw, .slice ak nk ck], v, .bool across] w fun e w' => ∃ b m d, e = .returned (.slice b m d) ∧ Reads w' (.slice b m d) (natI (turN (tF across W H) l)) ∧ (∀ g, (Value.slice b m d).ownBlock = some g → w.heap.size ≤ g) ∧ Ext w w' := by
  refine (lturned_c W H nw cw nk ck aw ak hW hH v l hl hl64 across w hr).mono fun e w' ⟨u, h1, h2, h3, h4⟩ => ?_
  obtain ⟨_, b, d, rfl⟩ := h2.shape
  exact ⟨b, _, d, h1, h2, h3, h4⟩
end Go.Proofs.YtppjnpempgpkaaaGreat
