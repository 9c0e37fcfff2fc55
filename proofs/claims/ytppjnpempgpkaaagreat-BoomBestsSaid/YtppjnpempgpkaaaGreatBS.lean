/- Lists of lists of int: in memory, and growing ones of the call's own. The reference: waterOf, by its contract. The reference: Bests, by its contract. -/
import Derived.Test.YtppjnpempgpkaaaGreatSO
import Derived.Test.YtppjnpempgpkaaaGreatB5
import Derived.Test.YtppjnpempgpkaaaGreatH7
import Derived.Test.YtppjnpempgpkaaaGreatH6
import Derived.Test.YtppjnpempgpkaaaGreatN3
import Derived.Test.YtppjnpempgpkaaaGreatK1
import Derived.Test.YtppjnpempgpkaaaGreatRA
import Derived.Test.YtppjnpempgpkaaaGreatR2
import Derived.Test.YtppjnpempgpkaaaGreatFR
import Derived.Test.YtppjnpempgpkaaaGreatTA
import Derived.Test.YtppjnpempgpkaaaGreatJ3
namespace Go.Proofs.YtppjnpempgpkaaaGreat
open Go.RowKit Go.Shelf
set_option linter.unusedVariables false
set_option linter.unusedSimpArgs false
attribute [local go_sem] Oper.semAt_some

theorem reads_kept {w X : World} {v : Value} {xs : List Int} {r : Option Nat} (h : Reads w v xs) (hg : w.grownBy X r) (hne : ∀ b, v.ownBlock = some b → xs ≠ [] → r ≠ some b) : Reads X v xs := by
  obtain ⟨hl, a, cap, rfl, hcap, h⟩ := h
  refine ⟨hl, a, cap, rfl, hcap, ?_⟩
  rcases h with h | ⟨b, off, rfl, hc⟩
  · exact .inl h
  · by_cases hn : xs = []
    · exact .inl hn
    · refine .inr ⟨b, off, rfl, fun i hi => ?_⟩
      have h1 := hc i hi
      have h2 := hg.block b (lt_of_cell h1) (fun e => hne b rfl hn e.symm)
      rw [← h1]
      simp only [World.cell?, h2]
theorem reads_below {w : World} {v : Value} {xs : List Int} (h : Reads w v xs) : ∀ b, v.ownBlock = some b → xs ≠ [] → b < w.heap.size := fun b hb hne => by
  obtain ⟨hl, a, cap, rfl, hcap, h⟩ := h
  rcases h with h | ⟨b', off, rfl, hc⟩
  · exact absurd h hne
  · obtain rfl : b' = b := Option.some.inj hb
    exact lt_of_cell (hc 0 (List.length_pos_iff.2 hne))
/-- A list of lists in memory. -/
def ReadsLL (w : World) (v : Value) (L : List (List Int)) : Prop :=
  L.length ≤ 20001 ∧ ∃ a cap, v = .slice a L.length cap ∧ (L.length ≤ cap ∧ cap ≤ 9223372036854775807) ∧ (L = [] ∨ ∃ b off, a = some ⟨b, off, none⟩ ∧ ∀ i l, L[i]? = some l → ∃ (u : Option Addr) (n c : Nat), w.cell? ⟨b, off + i, none⟩ = some (.slice u n c) ∧ Reads w (.slice u n c) l)
theorem ReadsLL.ext {w w' : World} {v : Value} {L : List (List Int)} (h : ReadsLL w v L) (hE : Ext w w') : ReadsLL w' v L := by
  obtain ⟨hl, a, cap, rfl, hc, h⟩ := h
  refine ⟨hl, a, cap, rfl, hc, h.imp id ?_⟩
  rintro ⟨b, off, rfl, hh⟩
  refine ⟨b, off, rfl, fun i l hi => ?_⟩
  obtain ⟨u, n, c, h1, h2⟩ := hh i l hi
  exact ⟨u, n, c, cell_ext hE h1, h2.ext hE⟩
theorem ReadsLL.at {w : World} {a : Option Addr} {n cap : Nat} {L : List (List Int)} (h : ReadsLL w (.slice a n cap) L) {i : Nat} (hi : i < L.length) :
    ∃ b off l u m c, a = some ⟨b, off, none⟩ ∧ L[i]? = some l ∧ w.cell? ⟨b, off + i, none⟩ = some (.slice u m c) ∧ Reads w (.slice u m c) l := by
  obtain ⟨hl, a', cap', e, hc, h⟩ := h
  cases e
  rcases h with rfl | ⟨b, off, rfl, hh⟩
  · simp at hi
  · obtain ⟨l, hll⟩ := get_some hi
    obtain ⟨u, m, c, h1, h2⟩ := hh i l hll
    exact ⟨b, off, l, u, m, c, rfl, hll, h1, h2⟩
/-- A growing list of lists of the call's own. -/
def OwnLL (B : Nat) (w : World) (v : Value) (L : List (List Int)) : Prop :=
  ∃ us : List Value, us.length = L.length ∧ w.ownsRow B 22 1 v us.length us ∧ ∀ (i : Nat) (u : Value) (l : List Int), us[i]? = some u → L[i]? = some l → (∃ a n c, u = .slice a n c) ∧ Reads w u l ∧ ∀ b, u.ownBlock = some b → l ≠ [] → v.ownBlock ≠ some b
theorem OwnLL.nil (B : Nat) (w : World) : OwnLL B w (.slice none 0 0) [] := ⟨[], rfl, World.ownsRow_nil _ _ _ _, fun i u l h => by simp at h⟩
theorem OwnLL.ext {B : Nat} {w w' : World} {v : Value} {L : List (List Int)} (h : OwnLL B w v L) (hE : Ext w w') : OwnLL B w' v L := by
  obtain ⟨us, h1, h2, h3⟩ := h
  refine ⟨us, h1, ownsRow_ext h2 hE, fun i u l hu hl => ?_⟩
  obtain ⟨a, b, c⟩ := h3 i u l hu hl
  exact ⟨a, b.ext hE, c⟩
theorem OwnLL.lt {B : Nat} {w : World} {v : Value} {L : List (List Int)} (h : OwnLL B w v L) : ∀ g, v.ownBlock = some g → B ≤ g ∧ g < w.heap.size := by
  obtain ⟨us, h1, h2, h3⟩ := h
  exact World.ownsRow.lt h2
theorem OwnLL.reads {B : Nat} {w : World} {v : Value} {L : List (List Int)} (h : OwnLL B w v L) (hl : L.length ≤ 20001) : ReadsLL w v L := by
  obtain ⟨us, h1, ⟨h20, h2⟩, h3⟩ := h
  refine ⟨hl, ?_⟩
  rcases h2 with ⟨rfl, h0⟩ | ⟨g, cap, cur, rfl, hb, hh, hn, hc, hs, ht⟩
  · have : L = [] := List.eq_nil_of_length_eq_zero (by omega)
    subst this
    exact ⟨none, 0, rfl, by simp, .inl rfl⟩
  · rw [h1]
    refine ⟨_, cap, rfl, ⟨by omega, hc⟩, .inr ⟨g, 0, rfl, fun i l hi => ?_⟩⟩
    have hiL := (List.getElem?_eq_some_iff.1 hi).1
    obtain ⟨u, hu⟩ := get_some (xs := us) (k := i) (by omega)
    obtain ⟨⟨a, n, c, rfl⟩, hr, -⟩ := h3 i u l hu hi
    refine ⟨a, n, c, ?_, hr⟩
    have hcell : w.cell? ⟨g, 0 + i, none⟩ = some (.slice a n c) := by
      have hcur : cur[i]? = some (.slice a n c) := by
        have : (cur.toList.take us.length)[i]? = us[i]? := by rw [show cur.toList.take us.length = us from by simpa using ht]
        rw [List.getElem?_take_of_lt (by omega), hu] at this
        simpa using this
      rw [Nat.zero_add]
      exact cell_of_blk hh hcur
    exact hcell
theorem infoSl : (Tryz.prog.info? 22).map (fun i => (i.zero, i.size, i.bytes)) = some (some (.slice none 0 0), 1, 24) := by kernel_rfl
theorem appendL_run {X : World} {B : Nat} {v : Value} {us : List Value} (h : X.ownsRow B 22 1 v us.length us) (hB : B ≤ X.heap.size) (hl : us.length ≤ 20000) (a : Option Addr) (n c : Nat) (b : Nat) (h0 : X.cell? ⟨b, 0, none⟩ = some (.slice a n c)) (ty : TypeId) :
    ∃ v' X', (Builtin.append_ #[47, 47] ty #[v, .slice (some ⟨b, 0, none⟩) 1 1]).run Tryz.prog X = .ok v' X' ∧ X'.ownsRow B 22 1 v' (us ++ [Value.slice a n c]).length (us ++ [Value.slice a n c]) ∧ X.grownBy X' v.ownBlock ∧ ∀ g, g < X.heap.size → v.ownBlock ≠ some g → v'.ownBlock ≠ some g := by
  obtain ⟨i0, hi0, hz0, hz1, hz2⟩ := info_parts infoSl
  have hnews : ∀ (j : Nat) (u : Value), [Value.slice a n c][j]? = some u → X.cell? ((⟨b, 0, none⟩ : Addr).add j) = some u := fun j u hj => by
    match j, hj with
    | 0, hj => simp at hj; subst hj; rw [addr_add]; exact h0
    | j + 1, hj => simp at hj
  obtain ⟨v', X', hrun, r1, r2, r3⟩ := run_append_own (P := Tryz.prog) X B 47 ty 22 i0 _ 1 24 Tryz.underlying47 hi0 hz0 hz1 hz2 rfl (by decide) v _ _ h ⟨b, 0, none⟩ 1 1 [Value.slice a n c] rfl hnews (fun u hu => by simp at hu; subst hu; rfl) (by unfold maxLen; omega) (by omega) hB
  refine ⟨v', X', hrun, by rw [List.length_append]; exact r1, r2, fun g hg hne he => ?_⟩
  rcases h.2 with ⟨rfl, h00⟩ | ⟨gv, cap, cur, rfl, hbg, hgv, hnc, hcm, hcs, htake⟩
  · have hr := run_append_nil (P := Tryz.prog) X 47 ty 22 i0 _ Tryz.underlying47 hi0 hz0 ⟨b, 0, none⟩ 1 1 [.slice a n c] (by rw [hz1]; rfl) hnews (by omega) (by omega) (by omega)
    rw [hr] at hrun
    cases hrun
    simp [Value.ownBlock] at he
    omega
  · by_cases hroom : us.length + 1 ≤ cap
    · have hr := run_append_room (P := Tryz.prog) X 47 ty 22 i0 Tryz.underlying47 hi0 gv us.length cap cur hgv ⟨b, 0, none⟩ 1 1 [.slice a n c] (by rw [hz1]; rfl) hnews (fun u hu => by simp at hu; subst hu; rfl) hroom (by rw [hz1]; simp; omega)
      rw [hr] at hrun
      cases hrun
      exact hne he
    · have hr := run_append_grow (P := Tryz.prog) X 47 ty 22 i0 _ Tryz.underlying47 hi0 hz0 ⟨gv, 0, none⟩ us.length cap _ (by rw [hz1, Nat.mul_one]) (World.ownsRow.cells h (g := gv) rfl) ⟨b, 0, none⟩ 1 1 [.slice a n c] (by rw [hz1]; rfl) hnews (by omega) (by omega) (growslice_fits (by omega) (by rw [hz2]; omega))
      rw [hr] at hrun
      cases hrun
      simp [Value.ownBlock] at he
      omega
/-- One more list. -/
theorem appendLL {X : World} {B : Nat} {v : Value} {L : List (List Int)} (h : OwnLL B X v L) (hB : B ≤ X.heap.size) (hl : L.length ≤ 20000) (a : Option Addr) (n c : Nat) (l : List Int) (hr : Reads X (.slice a n c) l) (hne : ∀ g, (Value.slice a n c).ownBlock = some g → l ≠ [] → v.ownBlock ≠ some g) (b : Nat) (h0 : X.cell? ⟨b, 0, none⟩ = some (.slice a n c)) (ty : TypeId) :
    ∃ v' X', (Builtin.append_ #[47, 47] ty #[v, .slice (some ⟨b, 0, none⟩) 1 1]).run Tryz.prog X = .ok v' X' ∧ OwnLL B X' v' (L ++ [l]) ∧ X.grownBy X' v.ownBlock := by
  obtain ⟨us, h1, h2, h3⟩ := h
  obtain ⟨v', X', hrun, r1, r2, r3⟩ := appendL_run h2 hB (by omega) a n c b h0 ty
  refine ⟨v', X', hrun, ⟨us ++ [.slice a n c], by rw [List.length_append, List.length_append, h1]; rfl, r1, fun i u m hu hm => ?_⟩, r2⟩
  have key : ∀ (u : Value) (m : List Int), Reads X u m → (∀ g, u.ownBlock = some g → m ≠ [] → v.ownBlock ≠ some g) → Reads X' u m ∧ ∀ g, u.ownBlock = some g → m ≠ [] → v'.ownBlock ≠ some g := fun u m k1 k2 =>
    ⟨reads_kept k1 r2 k2, fun g hg hm => r3 g (reads_below k1 g hg hm) (k2 g hg hm)⟩
  by_cases hi : i < us.length
  · rw [List.getElem?_append_left hi] at hu
    rw [List.getElem?_append_left (by omega)] at hm
    obtain ⟨k0, k1, k2⟩ := h3 i u m hu hm
    exact ⟨k0, key u m k1 k2⟩
  · have hi2 := (List.getElem?_eq_some_iff.1 hu).1
    rw [List.length_append, List.length_singleton] at hi2
    have he : i = us.length := by omega
    subst he
    rw [List.getElem?_append_right (Nat.le_refl _), Nat.sub_self] at hu
    rw [h1, List.getElem?_append_right (Nat.le_refl _), Nat.sub_self] at hm
    obtain rfl : Value.slice a n c = u := by simpa using hu
    obtain rfl : l = m := by simpa using hm
    exact ⟨⟨a, n, c, rfl⟩, key _ _ hr hne⟩
end Go.Proofs.YtppjnpempgpkaaaGreat
namespace Go.Proofs.YtppjnpempgpkaaaGreat
open Go.RowKit Go.Shelf
set_option linter.unusedVariables false
set_option linter.unusedSimpArgs false
attribute [local go_sem] Oper.semAt_some

theorem and1_i64 (a : Nat) (ha : a < 9223372036854775808) : bits .and .i64 (a : Int) 1 = ((a % 2 : Nat) : Int) := by
  show IntKind.i64.wrap ((BitVec.ofInt 64 (a : Int) &&& BitVec.ofInt 64 1).toNat : Int) = _
  have h1 : (BitVec.ofInt 64 (a : Int)).toNat = a := by rw [BitVec.toNat_ofInt]; omega
  have h2 : (BitVec.ofInt 64 1).toNat = 1 := by decide
  rw [BitVec.toNat_and, h1, h2, Nat.and_one_is_mod]
  have : a % 2 < 2 := Nat.mod_lt _ (by decide)
  generalize a % 2 = r at *
  have h3 : r = 0 ∨ r = 1 := by omega
  rcases h3 with rfl | rfl <;> rfl
/-- A cell is taken by the bits of the first free cells. -/
def tkB (F : List Nat) (b i j : Nat) : Bool := (List.range j).any fun z => decide (F.getD z 0 = i) && b.testBit z
theorem tkB_succ (F : List Nat) (b i j : Nat) : tkB F b i (j + 1) = (tkB F b i j || (decide (F.getD j 0 = i) && b.testBit j)) := by
  unfold tkB; rw [List.range_succ, List.any_append]; simp
def wofN (wn F : List Nat) (b k : Nat) : List Nat := (List.range k).filter fun i => memL wn i || tkB F b i F.length
theorem wofN_succ (wn F : List Nat) (b k : Nat) : wofN wn F b (k + 1) = wofN wn F b k ++ if (memL wn k || tkB F b k F.length) = true then [k] else [] := by
  unfold wofN
  rw [List.range_succ, List.filter_append, List.filter_cons, List.filter_nil]
theorem wofN_len (wn F : List Nat) (b k : Nat) : (wofN wn F b k).length ≤ k := by
  unfold wofN
  have := List.length_filter_le (fun i => memL wn i || tkB F b i F.length) (List.range k)
  rwa [List.length_range] at this
set_option maxRecDepth 100000 in
set_option maxHeartbeats 4000000 in
theorem waterOf_c (W H nw cw nk ck : Nat) (aw ak : Option Addr) (wn kn : List Nat) (hv : VP W H wn kn) (F : List Nat) (af : Option Addr) (nf cf : Nat) (hnf : nf ≤ 64) (b : Nat) (hb : b < 9223372036854775808) (w : World) (hw : Reads w (.slice aw nw cw) (natI wn)) (hf : Reads w (.slice af nf cf) (natI F)) :
    Calls Tryz.prog 85 #[.agg #[.int .i64 (W : Int), .int .i64 (H : Int), .slice aw nw cw, .slice ak nk ck], .slice af nf cf, .int .i64 (b : Int)] w fun e w' => ∃ a n c, e = .returned (.slice a n c) ∧ Reads w' (.slice a n c) (natI (wofN wn F b (W * H))) ∧ (∀ g, (Value.slice a n c).ownBlock = some g → w.heap.size ≤ g) ∧ Ext w w' := by
  have hW8 := hv.w8; have hH8 := hv.h8
  have HCE := Lib.hid (fun (X : World) => rcells_c W H nw cw nk ck aw ak hW8 hH8 X)
  have h64 := hv.n64
  obtain ⟨m, hm⟩ : ∃ m, m = W * H := ⟨_, rfl⟩
  rw [← hm] at HCE h64 ⊢
  have HWL := Lib.hid hw; have HFL := Lib.hid hf
  have HNF := Lib.hid (show nf = F.length from by have := hf.len; rwa [natI_len] at this)
  have HBB := Lib.hid hb
  clear hw hf hm hW8 hH8 hb
  obtain ⟨w1, hw1⟩ : ∃ w1, w1 = w.alloc (.cells #[.int .i64 (W : Int), .int .i64 (H : Int), .slice aw nw cw, .slice ak nk ck] 24) := ⟨_, rfl⟩
  have E0 := Lib.hid (show Ext w w1 from by rw [hw1]; exact (Ext.refl w).alloc _)
  have B0 := Lib.hid (show w1.heap[w.heap.size]? = some (.cells #[.int .i64 (W : Int), .int .i64 (H : Int), .slice aw nw cw, .slice ak nk ck] 24 (0, 0)) from by rw [hw1]; exact heap_alloc_new w _)
  go_enter Tryz.func85, Tryz.ntmps85
  go_upto_region 2 with fail
  rw [← hw1]
  clear hw1
  go_wp2
  go_loopw [7, 8] (fun u i wr => ∃ k : Nat, k ≤ m ∧ i = .int .i64 (k : Int) ∧ Hid (OwnI 3 (w.heap.size + 1) wr u (natI (wofN wn F b k))) ∧ Hid (wr.heap[w.heap.size]? = some (.cells #[.int .i64 (W : Int), .int .i64 (H : Int), .slice aw nw cw, .slice ak nk ck] 24 (0, 0))) ∧ Hid (Ext w wr)) (fun u i wr => m - (intOf i).toNat)
  case atStart => exact ⟨0, Nat.zero_le _, rfl, Lib.hid (OwnI.nil _ _ _), B0, E0⟩
  case round =>
    clear B0 E0
    obtain ⟨k, hk, rfl, hO, hp, hE⟩ := hrel
    obtain ⟨z0, z1, z2, z3⟩ := cells4 hp.out
    go_wp2_with fail
    refine (HCE.out _).mono ?_
    rintro e Y1 ⟨rfl, h2⟩
    have HE := Lib.hid (hE.out.trans h2); have HP := Lib.hid (block_ext h2 hp.out); have HO := Lib.hid (hO.out.ext h2)
    clear h2 z0 z1 z2 z3 hO hp hE
    obtain ⟨z0, z1, z2, z3⟩ := cells4 HP.out
    obtain ⟨uo, huo⟩ : ∃ v, v = u7 := ⟨_, rfl⟩
    rw [← huo] at HO ⊢
    clear huo
    by_cases hlt : k < m
    · have HLT := Lib.hid hlt
      have HQ1 := Lib.hid (has_c _ (natI wn) (k : Int) Y1 (HWL.out.ext HE.out))
      rw [hasB_nat] at HQ1
      have HSU := Lib.hid (wofN_succ wn F b k)
      have HTK := Lib.hid (show memL wn k = decide (k ∈ wn) from rfl)
      have hka : (0 : Int) ≤ (k : Int) := by omega
      have hkb : (k : Int) < (m : Int) := by omega
      have hkt : (k : Int).toNat = k := by omega
      have HLEN := Lib.hid (show (natI (wofN wn F b k)).length ≤ 20000 from by rw [natI_len]; have := wofN_len wn F b k; omega)
      have HFY := Lib.hid (HFL.out.ext HE.out)
      rw [HTK.out] at HSU
      clear HTK
      generalize decide (k ∈ wn) = q0 at *
      go_wp2_with fail
      refine Calls.mono HQ1.out ?_
      intro e Y h1; obtain ⟨h1, hY⟩ := h1; subst h1; subst hY
      clear HQ1
      go_upto_region 6 with fail
      clear z0 z1 z2 z3
      go_wp2
      go_loopw [9, 10] (fun d i wr' => ∃ j : Nat, j ≤ nf ∧ i = .int .i64 (j : Int) ∧ d = .bool (q0 || tkB F b k j) ∧ Hid (wr' = Y1)) (fun d i wr' => nf - (intOf i).toNat)
      case atStart => exact ⟨0, Nat.zero_le _, rfl, by simp [tkB], (by first | exact Lib.hid rfl | exact Lib.hid trivial)⟩
      case round =>
        obtain ⟨j, hj, rfl, rfl, hWW⟩ := hrel
        have hww := hWW.out
        subst hww
        by_cases hjl : j < nf
        · have hstep := tkB_succ F b k j
          obtain ⟨wb, off, x, e1, hx, hcx⟩ := HFY.out.at (k := j) (by rw [natI_len]; have := HNF.out; omega)
          unfold natI at hx
          rw [List.getElem?_map] at hx
          obtain ⟨c, hc⟩ : ∃ c, F[j]? = some c := get_some (by have := HNF.out; omega)
          rw [hc] at hx
          obtain rfl : ((c : Nat) : Int) = x := Option.some.inj hx
          subst e1
          rw [show F.getD j 0 = c from by rw [List.getD_eq_getElem?_getD, hc]; rfl] at hstep
          have hja : (0 : Int) ≤ (j : Int) := by omega
          have hjb : (j : Int) < (nf : Int) := by omega
          have hjt : (j : Int).toNat = j := by omega
          have hq : (q0 || tkB F b k (j + 1)) = ((q0 || tkB F b k j) || (decide (c = k) && b.testBit j)) := by rw [hstep, Bool.or_assoc]
          clear hx hc hstep
          generalize (q0 || tkB F b k j) = q at *
          cases q with
          | true =>
            have HJ := Lib.hid (show (q0 || tkB F b k (j + 1)) = true from by rw [hq]; rfl)
            clear hq
            go_wp2
            go_roundw
            case rel => exact ⟨j + 1, by omega, by go_num, by rw [HJ.out], (by first | exact Lib.hid rfl | exact Lib.hid trivial)⟩
            case measure => simp [intOf]; omega
          | false =>
            by_cases hck : c = k
            · subst c
              have hck2 : decide ((k : Int) = (k : Int)) = true := decide_eq_true rfl
              obtain ⟨s, hs⟩ : ∃ s, s = b / 2 ^ j := ⟨_, rfl⟩
              have hsi : (b : Int) / 2 ^ j = (s : Int) := by rw [hs]; simp
              have hs64 : s < 9223372036854775808 := by rw [hs]; exact Nat.lt_of_le_of_lt (Nat.div_le_self _ _) HBB.out
              have hand := and1_i64 s hs64
              have hbt : b.testBit j = decide (s % 2 = 1) := by rw [Nat.testBit_eq_decide_div_mod_eq, hs]
              rw [hbt] at hq
              have hr2 : s % 2 < 2 := Nat.mod_lt _ (by decide)
              generalize s % 2 = r at *
              clear hs hbt
              have hr3 : r = 0 ∨ r = 1 := by omega
              rcases hr3 with rfl | rfl
              · have HJ := Lib.hid (show (q0 || tkB F b k (j + 1)) = false from by rw [hq]; simp)
                clear hq
                go_wp2
                go_roundw
                case rel => exact ⟨j + 1, by omega, by go_num, by rw [HJ.out], (by first | exact Lib.hid rfl | exact Lib.hid trivial)⟩
                case measure => simp [intOf]; omega
              · have HJ := Lib.hid (show (q0 || tkB F b k (j + 1)) = true from by rw [hq]; simp)
                clear hq
                go_wp2
                go_roundw
                case rel => exact ⟨j + 1, by omega, by go_num, by rw [HJ.out], (by first | exact Lib.hid rfl | exact Lib.hid trivial)⟩
                case measure => simp [intOf]; omega
            · have hck2 : decide ((c : Int) = (k : Int)) = false := decide_eq_false (by omega)
              have hck3 : ¬ (c : Int) = (k : Int) := by omega
              have HJ := Lib.hid (show (q0 || tkB F b k (j + 1)) = false from by rw [hq, decide_eq_false hck]; rfl)
              clear hq
              go_wp2
              go_roundw
              case rel => exact ⟨j + 1, by omega, by go_num, by rw [HJ.out], (by first | exact Lib.hid rfl | exact Lib.hid trivial)⟩
              case measure => simp [intOf]; omega
        · have hjn : j = nf := by omega
          subst j
          rw [← HNF.out] at HSU
          have hlt := HLT.out
          have hk64 : k < 64 := by omega
          generalize (q0 || tkB F b k nf) = q at *
          cases q with
          | true =>
            have HS3 := Lib.hid (show natI (wofN wn F b (k + 1)) = natI (wofN wn F b k) ++ [(k : Int)] from by rw [HSU.out]; unfold natI; simp)
            obtain ⟨W3, hW3⟩ : ∃ W3, W3 = wr.alloc (.cells #[.int .i64 (k : Int)] 3) := ⟨_, rfl⟩
            have hE3 : Ext wr W3 := by rw [hW3]; exact (Ext.refl _).alloc _
            have hz3 : W3.cell? ⟨wr.heap.size, 0, none⟩ = some (.int .i64 (k : Int)) := cell_of_blk (by rw [hW3]; exact heap_alloc_new wr _) rfl
            obtain ⟨v4, X4, hrun, ho4, hg4⟩ := appendI_run (HO.out.ext hE3) (by have := lt_of_blk HP.out; have := hE3.size; omega) HLEN.out (k : Int) wr.heap.size hz3 22
            have hob := own_from (HO.out.ext hE3)
            have HO4 := Lib.hid (show OwnI 3 (w.heap.size + 1) X4 v4 (natI (wofN wn F b (k + 1))) from by rw [HS3.out]; exact ho4)
            have HB4 := Lib.hid ((hg4.block w.heap.size (lt_of_blk (block_ext hE3 HP.out)) (fun e => by have := hob _ e.symm; omega)).trans (block_ext hE3 HP.out))
            have HE4 := Lib.hid (show Ext w X4 from grown_any (HE.out.trans hE3) hg4 (fun g e => by have := hob g e; omega))
            rw [hW3] at hrun
            clear hE3 hz3 ho4 hg4 hob hW3
            go_wp2_with (first | (refine wpList_append_run rfl _ _ 22 rfl rfl rfl hrun ?_) | fail)
            go_roundw
            case rel => exact ⟨k + 1, by have := HLT.out; omega, by go_num, HO4, HB4, HE4⟩
            case measure => have := HLT.out; simp [intOf]; omega
          | false =>
            have HS2 := Lib.hid (show natI (wofN wn F b (k + 1)) = natI (wofN wn F b k) from by rw [HSU.out]; simp)
            go_wp2
            go_roundw
            case rel => exact ⟨k + 1, by have := HLT.out; omega, by go_num, by rw [HS2.out]; exact HO, HP, HE⟩
            case measure => have := HLT.out; simp [intOf]; omega
    · have hkm : k = m := by omega
      subst k
      have hrd := HO.out.reads (by rw [natI_len]; have := wofN_len wn F b m; omega)
      obtain ⟨_, a, c, rfl⟩ := hrd.shape
      have HRD := Lib.hid hrd
      have HFS := Lib.hid (own_from HO.out)
      clear hrd HO
      go_wp2
      go_ret
      exact ⟨_, _, _, rfl, HRD.out, fun g hg => by have := HFS.out g hg; omega, HE.out⟩
end Go.Proofs.YtppjnpempgpkaaaGreat
namespace Go.Proofs.YtppjnpempgpkaaaGreat
open Go.RowKit Go.Shelf
set_option linter.unusedVariables false
set_option linter.unusedSimpArgs false
attribute [local go_sem] Oper.semAt_some

/-- What the loop holds behind the first b waters. -/
def stB {W H : Nat} {wn kn : List Nat} (hv : VP W H wn kn) (F : List Nat) (b : Nat) : Int × List (List Nat) :=
  ((List.range b).map fun z => wofN wn F z (W * H)).foldl (leastS fun ns => (stk (gp hv) (memL ns) : Int)) (-1, [])
theorem stB_succ {W H : Nat} {wn kn : List Nat} (hv : VP W H wn kn) (F : List Nat) (b : Nat) : stB hv F (b + 1) = leastS (fun ns => (stk (gp hv) (memL ns) : Int)) (stB hv F b) (wofN wn F b (W * H)) := by
  unfold stB
  rw [List.range_succ, List.map_append, List.foldl_append]
  rfl
theorem stB_len {W H : Nat} {wn kn : List Nat} (hv : VP W H wn kn) (F : List Nat) : ∀ b, (stB hv F b).2.length ≤ b
  | 0 => Nat.le_refl _
  | b + 1 => by
    rw [stB_succ]
    have ih := stB_len hv F b
    unfold leastS
    split
    · simp
    · split
      · simp; omega
      · omega
theorem wof_lst (wn F : List Nat) (b m : Nat) : Lst m (wofN wn F b m) := filter_lst _ _
set_option maxRecDepth 100000 in
set_option maxHeartbeats 4000000 in
theorem bests_c (W H nw cw nk ck : Nat) (aw ak : Option Addr) (wn kn : List Nat) (hv : VP W H wn kn) (hfr : (freN wn kn (W * H)).length ≤ 9) (w : World) (hw : Reads w (.slice aw nw cw) (natI wn)) (hk : Reads w (.slice ak nk ck) (natI kn)) :
    Calls Tryz.prog 48 #[.agg #[.int .i64 (W : Int), .int .i64 (H : Int), .slice aw nw cw, .slice ak nk ck]] w fun e w' => ∃ a n c, e = .returned (.slice a n c) ∧ ReadsLL w' (.slice a n c) ((stB hv (freN wn kn (W * H)) (2 ^ (freN wn kn (W * H)).length)).2.map natI) ∧ Ext w w' := by
  have HV := Lib.hid hv; have HWR := Lib.hid hw; have HKR := Lib.hid hk
  have HFR := Lib.hid (fun (X : World) (h : Ext w X) => rfree_c W H nw cw nk ck aw ak wn kn hv X (hw.ext h) (hk.ext h))
  obtain ⟨F, hF⟩ : ∃ F, F = freN wn kn (W * H) := ⟨_, rfl⟩
  rw [← hF] at HFR hfr ⊢
  obtain ⟨nf, hnf⟩ : ∃ n, n = F.length := ⟨_, rfl⟩
  rw [← hnf] at HFR hfr ⊢
  obtain ⟨P, hP⟩ : ∃ P, P = 2 ^ nf := ⟨_, rfl⟩
  have hP512 : P ≤ 512 := by rw [hP]; exact Nat.le_trans (Nat.pow_le_pow_right (by decide) hfr) (by decide)
  rw [← hP]
  have hPi : (2 : Int) ^ nf = (P : Int) := by rw [hP]; simp
  have HFN := Lib.hid hnf
  have hnft : (nf : Int).toNat = nf := by omega
  clear hw hk hF hnf hP
  obtain ⟨w1, hw1⟩ : ∃ w1, w1 = w.alloc (.cells #[.int .i64 (W : Int), .int .i64 (H : Int), .slice aw nw cw, .slice ak nk ck] 24) := ⟨_, rfl⟩
  have HE := Lib.hid (show Ext w w1 from by rw [hw1]; exact (Ext.refl w).alloc _)
  have B0 := Lib.hid (show w1.heap[w.heap.size]? = some (.cells #[.int .i64 (W : Int), .int .i64 (H : Int), .slice aw nw cw, .slice ak nk ck] 24 (0, 0)) from by rw [hw1]; exact heap_alloc_new w _)
  go_enter Tryz.func48, Tryz.ntmps48
  obtain ⟨z0, z1, z2, z3⟩ := cells4 B0.out
  go_upto_region 1 with fail
  rw [← hw1]
  clear hw1
  go_wp2_with fail
  refine (HFR.out _ HE.out).mono ?_
  rintro e w2 ⟨fa, fc, rfl, hr1, h2⟩
  have HE := Lib.hid (HE.out.trans h2); have B0 := Lib.hid (block_ext h2 B0.out)
  have HFL := Lib.hid hr1; have HE2 := Lib.hid (Ext.refl w2)
  have HZ2 := Lib.hid (show w.heap.size + 1 ≤ w2.heap.size from by have := lt_of_blk B0.out; omega)
  clear h2 hr1 z0 z1 z2 z3 HFR
  go_wp2
  go_loopw [4, 5, 6] (fun u best i wr => ∃ b : Nat, b ≤ P ∧ i = .int .i64 (b : Int) ∧ best = .int .i64 (stB hv F b).1 ∧ Hid (OwnLL w2.heap.size wr u ((stB hv F b).2.map natI)) ∧ Hid (wr.heap[w.heap.size]? = some (.cells #[.int .i64 (W : Int), .int .i64 (H : Int), .slice aw nw cw, .slice ak nk ck] 24 (0, 0))) ∧ Hid (Ext w2 wr)) (fun u best i wr => P - (intOf i).toNat)
  case atStart => exact ⟨0, Nat.zero_le _, rfl, rfl, Lib.hid (OwnLL.nil _ _), B0, HE2⟩
  case round =>
    clear B0 HE2
    obtain ⟨b, hb, rfl, rfl, HO, B0, HC⟩ := hrel
    by_cases hlt : b < P
    · have HLT := Lib.hid hlt
      have hka : (b : Int) < (P : Int) := by omega
      obtain ⟨z0, z1, z2, z3⟩ := cells4 B0.out
      have HWO := Lib.hid (fun (X : World) (h : Ext w2 X) => waterOf_c W H nw cw nk ck aw ak wn kn HV.out F fa nf fc (by omega) b (by omega) X (HWR.out.ext (HE.out.trans h)) (HFL.out.ext h))
      go_wp2_with fail
      refine (HWO.out _ HC.out).mono ?_
      rintro e V1 ⟨xa, xn, xc, rfl, hr1, hf1, h2⟩
      have HX := Lib.hid hr1; have HFS := Lib.hid hf1
      have HO1 := Lib.hid HO.out
      have HC := Lib.hid (HC.out.trans h2); have B0 := Lib.hid (block_ext h2 B0.out); have HO := Lib.hid (HO.out.ext h2)
      clear h2 hr1 hf1 z0 z1 z2 z3 HWO
      obtain ⟨z0, z1, z2, z3⟩ := cells4 B0.out
      have hns := wof_lst wn F b (W * H)
      have HSO := Lib.hid (rsticksOf_c W H nw cw nk ck aw ak _ _ V1 ⟨hv.w1, hv.w8⟩ ⟨hv.h1, hv.h8⟩ HX.out (by have := hns.len; have := hv.n64; omega) hns.lt)
      rw [out_stk hv hns] at HSO
      have hst := stB_succ hv F b
      obtain ⟨ns, hns2⟩ : ∃ ns, ns = wofN wn F b (W * H) := ⟨_, rfl⟩
      rw [← hns2] at HSO hst HX
      obtain ⟨sk, hsk⟩ : ∃ sk, sk = stk (gp hv) (memL ns) := ⟨_, rfl⟩
      rw [← hsk] at HSO
      have HST := Lib.hid hst; have HSK := Lib.hid hsk
      clear hns hst hns2 hsk
      go_wp2_with fail
      refine HSO.out.mono ?_
      rintro e V2 ⟨rfl, h2⟩
      have HC := Lib.hid (HC.out.trans h2); have B0 := Lib.hid (block_ext h2 B0.out); have HO := Lib.hid (HO.out.ext h2); have HX := Lib.hid (HX.out.ext h2)
      clear h2 z0 z1 z2 z3 HSO
      obtain ⟨bst, hbst⟩ : ∃ v, v = (stB hv F b).1 := ⟨_, rfl⟩
      have HBS := Lib.hid hbst
      rw [← hbst]
      clear hbst
      by_cases hlow : bst < 0 ∨ (sk : Int) < bst
      · have HL := Lib.hid (show stB hv F (b + 1) = ((sk : Int), [ns]) from by
          rw [HST.out]; unfold leastS; rw [← HBS.out]; have ee := HSK.out; subst ee; dsimp only; rw [if_pos hlow])
        have HS1 := Lib.hid (show (stB hv F (b + 1)).1 = (sk : Int) from by rw [HL.out])
        have HS2 := Lib.hid (show (stB hv F (b + 1)).2.map natI = [] ++ [natI ns] from by rw [HL.out]; rfl)
        clear HL HO
        have hss : decide ((sk : Int) = (sk : Int)) = true := decide_eq_true rfl
        by_cases hneg : bst < 0
        · have hneg2 : decide (bst < 0) = true := decide_eq_true hneg
          clear hlow
          obtain ⟨W3, hW3⟩ : ∃ W3, W3 = V2.alloc (.cells #[.slice xa xn xc] 22) := ⟨_, rfl⟩
          have hE3 : Ext V2 W3 := by rw [hW3]; exact (Ext.refl _).alloc _
          have hz3 : W3.cell? ⟨V2.heap.size, 0, none⟩ = some (.slice xa xn xc) := cell_of_blk (by rw [hW3]; exact heap_alloc_new V2 _) rfl
          obtain ⟨v4, X4, hrun, ho4, hg4⟩ := appendLL (OwnLL.nil w2.heap.size W3) (by have := HC.out.size; have := hE3.size; omega) (by simp) xa xn xc (natI ns) (HX.out.ext hE3) (fun g _ _ h => by cases h) V2.heap.size hz3 47
          have HO := Lib.hid (show OwnLL w2.heap.size X4 v4 ((stB hv F (b + 1)).2.map natI) from by rw [HS2.out]; exact ho4)
          have B0 := Lib.hid ((hg4.block w.heap.size (lt_of_blk (block_ext hE3 B0.out)) (fun e => by cases e)).trans (block_ext hE3 B0.out))
          have HC := Lib.hid (show Ext w2 X4 from grown_any (HC.out.trans hE3) hg4 (fun g e => by cases e))
          rw [hW3] at hrun
          clear hE3 hz3 ho4 hg4 hW3
          go_wp2_with (first | (refine wpList_append_run rfl _ _ 47 rfl rfl rfl hrun ?_) | fail)
          go_roundw
          case rel => exact ⟨b + 1, by have := HLT.out; omega, by go_num, by rw [HS1.out], HO, B0, HC⟩
          case measure => have := HLT.out; simp [intOf]; omega
        · have hneg2 : decide (bst < 0) = false := decide_eq_false hneg
          have hlt2 : (sk : Int) < bst := by omega
          have hlt3 : decide ((sk : Int) < bst) = true := decide_eq_true hlt2
          clear hlow
          obtain ⟨W3, hW3⟩ : ∃ W3, W3 = V2.alloc (.cells #[.slice xa xn xc] 22) := ⟨_, rfl⟩
          have hE3 : Ext V2 W3 := by rw [hW3]; exact (Ext.refl _).alloc _
          have hz3 : W3.cell? ⟨V2.heap.size, 0, none⟩ = some (.slice xa xn xc) := cell_of_blk (by rw [hW3]; exact heap_alloc_new V2 _) rfl
          obtain ⟨v4, X4, hrun, ho4, hg4⟩ := appendLL (OwnLL.nil w2.heap.size W3) (by have := HC.out.size; have := hE3.size; omega) (by simp) xa xn xc (natI ns) (HX.out.ext hE3) (fun g _ _ h => by cases h) V2.heap.size hz3 47
          have HO := Lib.hid (show OwnLL w2.heap.size X4 v4 ((stB hv F (b + 1)).2.map natI) from by rw [HS2.out]; exact ho4)
          have B0 := Lib.hid ((hg4.block w.heap.size (lt_of_blk (block_ext hE3 B0.out)) (fun e => by cases e)).trans (block_ext hE3 B0.out))
          have HC := Lib.hid (show Ext w2 X4 from grown_any (HC.out.trans hE3) hg4 (fun g e => by cases e))
          rw [hW3] at hrun
          clear hE3 hz3 ho4 hg4 hW3
          go_wp2_with (first | (refine wpList_append_run rfl _ _ 47 rfl rfl rfl hrun ?_) | fail)
          go_roundw
          case rel => exact ⟨b + 1, by have := HLT.out; omega, by go_num, by rw [HS1.out], HO, B0, HC⟩
          case measure => have := HLT.out; simp [intOf]; omega
      · have h1 : ¬ bst < 0 := by omega
        have h2 : ¬ (sk : Int) < bst := by omega
        have h1d : decide (bst < 0) = false := decide_eq_false h1
        have h2d : decide ((sk : Int) < bst) = false := decide_eq_false h2
        by_cases heq : (sk : Int) = bst
        · have HL := Lib.hid (show stB hv F (b + 1) = (bst, (stB hv F b).2 ++ [ns]) from by
            rw [HST.out]; unfold leastS; rw [← HBS.out]; have ee := HSK.out; subst ee; dsimp only; rw [if_neg hlow, if_pos heq])
          have HS1 := Lib.hid (show (stB hv F (b + 1)).1 = bst from by rw [HL.out])
          have HS2 := Lib.hid (show (stB hv F (b + 1)).2.map natI = ((stB hv F b).2 ++ [ns]).map natI from by rw [HL.out])
          have heqd : decide ((sk : Int) = bst) = true := decide_eq_true heq
          clear HL hlow
          obtain ⟨W3, hW3⟩ : ∃ W3, W3 = V2.alloc (.cells #[.slice xa xn xc] 22) := ⟨_, rfl⟩
          have hE3 : Ext V2 W3 := by rw [hW3]; exact (Ext.refl _).alloc _
          have hz3 : W3.cell? ⟨V2.heap.size, 0, none⟩ = some (.slice xa xn xc) := cell_of_blk (by rw [hW3]; exact heap_alloc_new V2 _) rfl
          obtain ⟨v4, X4, hrun, ho4, hg4⟩ := appendLL (HO.out.ext hE3) (by have := HC.out.size; have := hE3.size; omega) (by rw [List.length_map]; have := stB_len hv F b; omega) xa xn xc (natI ns) (HX.out.ext hE3) (fun g hg hne h => by have := HFS.out g hg; have := (HO1.out.lt g h).2; omega) V2.heap.size hz3 47
          have HO := Lib.hid (show OwnLL w2.heap.size X4 v4 ((stB hv F (b + 1)).2.map natI) from by rw [HS2.out]; rw [List.map_append]; exact ho4)
          have B0 := Lib.hid ((hg4.block w.heap.size (lt_of_blk (block_ext hE3 B0.out)) (fun e => by have := (HO1.out.lt _ e.symm).1; have := HZ2.out; omega)).trans (block_ext hE3 B0.out))
          have HC := Lib.hid (show Ext w2 X4 from grown_any (HC.out.trans hE3) hg4 (fun g e => by have := (HO1.out.lt g e).1; omega))
          rw [hW3] at hrun
          clear hE3 hz3 ho4 hg4 hW3
          go_wp2_with (first | (refine wpList_append_run rfl _ _ 47 rfl rfl rfl hrun ?_) | fail)
          go_roundw
          case rel => exact ⟨b + 1, by have := HLT.out; omega, by go_num, by rw [HS1.out], HO, B0, HC⟩
          case measure => have := HLT.out; simp [intOf]; omega
        · have HL := Lib.hid (show stB hv F (b + 1) = stB hv F b from by
            rw [HST.out]; unfold leastS; rw [← HBS.out]; have ee := HSK.out; subst ee; dsimp only; rw [if_neg hlow, if_neg heq])
          have HS1 := Lib.hid (show (stB hv F (b + 1)).1 = bst from by rw [HL.out, HBS.out])
          have HS2 := Lib.hid (show (stB hv F (b + 1)).2 = (stB hv F b).2 from by rw [HL.out])
          have heqd : decide ((sk : Int) = bst) = false := decide_eq_false heq
          clear HL hlow
          go_wp2
          go_roundw
          case rel => exact ⟨b + 1, by have := HLT.out; omega, by go_num, by rw [HS1.out], by rw [HS2.out]; exact HO, B0, HC⟩
          case measure => have := HLT.out; simp [intOf]; omega
    · have hbP : b = P := by omega
      subst b
      have hrd := HO.out.reads (by rw [List.length_map]; have := stB_len hv F P; omega)
      obtain ⟨-, a, c, e1, -⟩ := id hrd
      have HRD := Lib.hid hrd
      obtain ⟨n, hn⟩ : ∃ n, n = ((stB hv F P).2.map natI).length := ⟨_, rfl⟩
      rw [← hn] at e1
      subst e1
      clear hrd HO hn
      go_wp2
      go_ret
      exact ⟨_, _, _, rfl, HRD.out, HE.out.trans HC.out⟩
end Go.Proofs.YtppjnpempgpkaaaGreat
