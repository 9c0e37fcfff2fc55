/- MarkNamed, by its contract: a valid office of at most 8 strokes. -/
import Derived.Test.YtlgdnbpboonhdaaJ2
import Derived.Test.YtlgdnbpboonhdaaZR
import Derived.StillTailTactics
import Derived.Deep.RegionLaw
namespace Go.Proofs.Ytlgdnbpboonhdaa
open Go.RowKit Go.Shelf Go.Maps
set_option linter.unusedVariables false
set_option linter.unusedSimpArgs false
attribute [local go_sem] Oper.semAt_some
theorem any_world {P : Program} {c : Code} {Q : Exit → Act → World → Prop} {a : Act} {w w0 : World} (hE : Ext w0 w) (h : ∀ W, Ext w0 W → c.wp P Q a W) : c.wp P Q a w := h w hE
set_option maxRecDepth 100000 in
set_option maxHeartbeats 8000000 in
theorem named15_ok (S L : Nat) (a a3 : Option Addr) (cap cap3 : Nat) (ms ns : List Nat) (x y : Nat) (hx : x ≤ 65535) (hy : y ≤ 255) (w : World) (hv : Valid S L ms) (hR : Reads w (.slice a (ints ms).length cap) (ints ms))
    (hf : ∀ W, Ext w W → Calls Try.prog 41 #[.agg #[.int .i64 (S : Int), .int .i64 (L : Int), .slice a (ints ms).length cap]] W fun e w' => e = .returned (.bool true) ∧ Ext W w')
    (h8 : S ≤ 8) (h20 : ns.length ≤ 20) (hU : Reads8 w (.slice a3 ns.length cap3) ns) (hb : ∀ x ∈ ns, x ≤ 255) :
    Calls Try.prog 15 #[.agg #[.int .i64 (S : Int), .int .i64 (L : Int), .slice a (ints ms).length cap], .int .u16 (x : Int), .int .u8 (y : Int), .slice a3 ns.length cap3] w fun e w' => e = .returned (.bool true) ∧ Ext w w' := by
  have E0 := Lib.hid ((Ext.refl w).alloc (.cells #[.int .i64 (S : Int), .int .i64 (L : Int), .slice a (ints ms).length cap] 24))
  have P0 := Lib.hid (OffAt.new w (.int .i64 (S : Int)) (.int .i64 (L : Int)) (.slice a (ints ms).length cap) 24)
  rw [ints_length] at hR hf E0 P0 ⊢
  have hS1 := hv.1
  have hS10 := hv.2.1
  have hn12 := hv.2.2.2.1
  have hfs := full_lt S hv.2.1
  have hL10 : L ≤ 10 := by have := hv.2.2.1; omega
  have HV := Lib.hid hv
  have HNM := Lib.hid (fun k => swK_name hS1 ns k)
  obtain ⟨σ, hσ⟩ : ∃ σ, σ = swK S ns ns.length := ⟨_, rfl⟩
  have hnm : IsName S σ := by rw [hσ]; exact swK_name hS1 ns _
  obtain ⟨X, hX⟩ : ∃ X, X = nmL σ S ms := ⟨_, rfl⟩
  have hvX : Valid S L X := by rw [hX]; exact nm_valid hnm hv
  have hXl : X.length = ms.length := by rw [hX]; exact nmL_len _ _ _
  -- the worn mark
  have e6 := worn_mod x S hv.1 hv.2.1
  have hwv := worn_le x S
  have hwz := worn_nz S hv.1 hv.2.1
  have hwl : x % 2 ^ S < 2 ^ S := Nat.mod_lt _ (Nat.two_pow_pos S)
  generalize x % 2 ^ S = xv at *
  obtain ⟨xn, hxn⟩ : ∃ xn, xn = nmTo σ xv S := ⟨_, rfl⟩
  have hxnf : xn ≤ full S := by have := nm_lt hnm xv; rw [← hxn] at this; unfold full; omega
  have howe : ownersL L xn X = ownersL L xv ms := by rw [hxn, hX]; exact nm_owners hnm hv hwl
  have hmge : marginL S X (pairsL X.length) = marginL S ms (pairsL ms.length) := by rw [hX]; exact nm_margin hnm hv
  have hfre : (freeL S L X).length = (freeL S L ms).length := by rw [hX]; exact nm_free hnm hv
  have HTE := Lib.hid (fun i => (by rw [hX]; exact nm_told hnm hv i : toldV X L i = toldV ms L i))
  have HKE := Lib.hid (fun i (hi : i < ms.length) => (by rw [hX]; exact nm_keep hnm hv hi : (keepO S ms i = none ∧ keepO S X i = none) ∨ ∃ k j, keepO S ms i = some k ∧ keepO S X i = some j ∧ k < 1024 ∧ j < 1024 ∧ pc k = pc j))
  have H54 := Lib.hid (fun (a9 : Option Addr) (cap9 : Nat) (z : Nat) (hz : z < 1024) W (h : Reads W (.slice a9 S cap9) (ints σ)) => named54 S z σ a9 cap9 W hnm hS10 hz h)
  have HXT := Lib.hid (show ∀ k m, ms[k]? = some m → nmL σ S (ms.take (k + 1)) = nmL σ S (ms.take k) ++ [nmTo σ m S] from fun k m h => by rw [take_snoc h]; simp [nmL])
  have HXE := Lib.hid (show nmL σ S (ms.take ms.length) = X from by rw [List.take_length, hX])
  have HXL := Lib.hid (show ∀ k, (nmL σ S (ms.take k)).length ≤ 12 from fun k => by rw [nmL_len]; simp; omega)
  have HF := Lib.hid (hf _ E0.out)
  have H19 := Lib.hid (fun W (h : Ext w W) => owners19_ok S L xv ms _ W hv (hR.ext h) hwv)
  have h19x := fun u W (h : Reads W u (ints X)) => owners19_ok S L xn X u W hvX h hxnf
  rw [howe] at h19x
  have H19x := Lib.hid h19x
  have H28 := Lib.hid (fun W (h : Ext w W) => margin28_ok S L ms _ W hv (hR.ext h))
  have h28x := fun u W (h : Reads W u (ints X)) => margin28_ok S L X u W hvX h
  rw [hmge] at h28x
  have H28x := Lib.hid h28x
  have H35 := Lib.hid (fun W (h : Ext w W) => free35_ok S L ms _ W hv (hR.ext h))
  have H35x := Lib.hid (fun u W (h : Reads W u (ints X)) => free35_ok S L X u W hvX h)
  have H30 := Lib.hid (fun i (hi : i < ms.length) W (h : Ext w W) => told30_ok S L i ms _ W hv (hR.ext h) hi)
  have H30x := Lib.hid (fun i (hi : i < ms.length) u W (h : Reads W u (ints X)) => (by have h1 := told30_ok S L i X u W hvX h (by omega); rw [HTE.out] at h1; exact h1 : Calls Try.prog 30 #[.agg #[.int .i64 (S : Int), .int .i64 (L : Int), u], .int .i64 (i : Int)] W fun e w' => e = .returned (.tuple #[.int .i64 (toldV ms L i), .int .i64 0]) ∧ Ext W w'))
  have H32 := Lib.hid (fun i (hi : i < ms.length) W (h : Ext w W) => keep32_ok S L i ms _ W hv (hR.ext h) hi)
  have H32x := Lib.hid (fun i (hi : i < ms.length) u W (h : Reads W u (ints X)) => keep32_ok S L i X u W hvX h (by omega))
  have HR := Lib.hid hR; have HU := Lib.hid hU; have HBD := Lib.hid hb
  have HMS := Lib.hid (fun k m (h : ms[k]? = some m) => hv.lt h)
  have HSIG := Lib.hid hσ
  have HNMS := Lib.hid hnm
  generalize ownersL L xv ms = ow at *
  generalize marginL S ms (pairsL ms.length) = mgv at *
  obtain ⟨f1, hf1⟩ : ∃ f1, f1 = freeL S L ms := ⟨_, rfl⟩
  obtain ⟨f2, hf2⟩ : ∃ f2, f2 = freeL S L X := ⟨_, rfl⟩
  rw [← hf1] at H35 hfre
  rw [← hf2] at H35x hfre
  obtain ⟨lf, hlf⟩ : ∃ lf, lf = f1.length := ⟨_, rfl⟩
  obtain ⟨lo, hlo⟩ : ∃ lo, lo = ow.length := ⟨_, rfl⟩
  obtain ⟨n, hn⟩ : ∃ n, n = ms.length := ⟨_, rfl⟩
  obtain ⟨m, hm⟩ : ∃ m, m = ns.length := ⟨_, rfl⟩
  have HLF := Lib.hid (And.intro hlf (hlf.trans hfre.symm)); have HLO := Lib.hid hlo; have HN := Lib.hid hn; have HM := Lib.hid hm
  have HXN := Lib.hid (show X.length = n from by rw [hXl, hn])
  rw [← hn] at E0 P0 hn12 HKE HXE HF H19 H28 H35 H30 H30x H32 H32x HR ⊢
  rw [← hm] at h20 HU HSIG ⊢
  have HWL := Lib.hid (And.intro hwl hxn)
  have hxv : xv < 1024 := by have := Nat.pow_le_pow_right (show 0 < 2 by decide) hS10; omega
  have hd8 : decide ((8 : Int) < (S : Int)) = false := decide_eq_false (by omega)
  have hd8n : ¬ 8 < S := by omega
  have hd20 : decide ((20 : Int) < (m : Int)) = false := decide_eq_false (by omega)
  have hd20n : ¬ 20 < m := by omega
  have hSz : ¬ (S : Int) = 0 := by omega
  have hSzn : ¬ S = 0 := by omega
  clear hf hR hU hb hv hnm hvX hσ hX hXl howe hmge hfre h19x h28x hf1 hf2 hlf hlo hn hm hwl hfs hxnf hxn
  go_enter Try.func15, Try.ntmps15
  go_wp2_with fail
  refine HF.out.mono ?_
  rintro e w1 ⟨rfl, hb⟩
  obtain ⟨g1, g2, g3⟩ := P0.out.ext hb
  have HP1 := Lib.hid (show OffAt w1 w.heap.size (.int .i64 (S : Int)) (.int .i64 (L : Int)) (.slice a n cap) from ⟨g1, g2, g3⟩)
  have HE1 := Lib.hid (E0.out.trans hb); clear hb
  go_wp2_with fail
  clear hd8 hd8n hd20 hd20n
  go_loopw [9, 10] (fun v i wr => ∃ k : Nat, k ≤ S ∧ i = .int .i64 (k : Int) ∧ Hid (Ext w1 wr) ∧ Hid (Owns w1.heap.size wr v (ints (List.range k)))) (fun v i wr => S - (RowKit.intOf i).toNat)
  case atStart => exact ⟨0, Nat.zero_le _, rfl, Ext.refl _, (Owns.nil _ _ : Owns _ _ _ _)⟩
  case round =>
    obtain ⟨k, hk, rfl, hE, hO⟩ := hrel
    obtain ⟨g1, g2, g3⟩ := HP1.out.ext hE.out
    by_cases hlt : k < S
    · have hkb : (k : Int) < (S : Int) := by omega
      have HPS := Lib.hid (show ints (List.range (k + 1)) = ints (List.range k) ++ [(k : Int)] from by rw [List.range_succ]; simp [ints])
      go_wp2_with (at_builtin; refine append1 _ w1.heap.size _ _ _ _ _ rfl rfl rfl hO.out (Below.size hE.out) (by rw [ints_length]; simp; omega) rfl ?_; intro v' w3 hO3 hB3)
      have HO3 := Lib.hid hO3; have HB3 := Lib.hid (Below.trans hE.out hB3); clear hO3 hB3
      go_wp2
      go_roundw
      case rel => exact ⟨k + 1, by omega, by go_num, HB3.out, (by rw [HPS.out]; exact HO3.out : Owns _ _ _ _)⟩
      case measure => simp [RowKit.intOf]; omega
    · obtain rfl : k = S := by omega
      obtain ⟨a9, cap9, rfl, -⟩ := own_shape hO.out
      have hlr : (ints (List.range k)).length = k := by rw [ints_length, List.length_range]
      rw [hlr] at hO ⊢
      clear hlr hlt hk
      go_wp2_with fail
      go_loopw [11] (fun i wq => ∃ j : Nat, j ≤ m ∧ i = .int .i64 (j : Int) ∧ Hid (Ext w1 wq) ∧ Hid (Owns w1.heap.size wq (.slice a9 k cap9) (ints (swK k ns j)))) (fun i wq => m - (RowKit.intOf i).toNat)
      case atStart => exact ⟨0, Nat.zero_le _, rfl, hE.out, (hO.out : Owns _ _ _ _)⟩
      case round =>
        clear hE hO g1 g2 g3
        obtain ⟨j, hj, rfl, hE, hO⟩ := hrel
        obtain ⟨g1, g2, g3⟩ := HP1.out.ext hE.out
        by_cases hlt : j < m
        · obtain ⟨z, hz⟩ := get_some (show j < ns.length by rw [← HM.out]; exact hlt)
          have hzb := HBD.out z (List.mem_of_getElem? hz)
          obtain ⟨b1, off1, hbo, c0⟩ := (HU.out.ext (HE1.out.trans hE.out)).at hz
          subst hbo
          have hze : mAt ns j = z := by unfold mAt; rw [hz]; rfl
          obtain ⟨p, hp⟩ : ∃ p, p = j % k := ⟨_, rfl⟩
          obtain ⟨q, hq⟩ : ∃ q, q = z % k := ⟨_, rfl⟩
          have hpk : p < k := by rw [hp]; exact Nat.mod_lt _ (by omega)
          have hqk : q < k := by rw [hq]; exact Nat.mod_lt _ (by omega)
          have e1 : (j : Int) % (k : Int) = (p : Int) := by rw [hp]; simp
          have e1t : ((j : Nat) : Int).tmod (k : Int) = (p : Int) := by rw [← Int.ofNat_tmod, hp]
          have e1n := hp.symm
          have e2 : (z : Int) % (k : Int) = (q : Int) := by rw [hq]; simp
          have e2t : ((z : Nat) : Int).tmod (k : Int) = (q : Int) := by rw [← Int.ofNat_tmod, hq]
          have e2n := hq.symm
          have hja : (0 : Int) ≤ (j : Int) := by omega
          have hjb : (j : Int) < (m : Int) := by omega
          have wz : IntKind.i64.wrap (z : Int) = (z : Int) := wrapi64 _ (by omega)
          have wp : IntKind.i64.wrap (p : Int) = (p : Int) := wrapi64 _ (by omega)
          have wq' : IntKind.i64.wrap (q : Int) = (q : Int) := wrapi64 _ (by omega)
          have hpa : (0 : Int) ≤ (p : Int) := by omega
          have hpb : (p : Int) < (k : Int) := by omega
          have hqa : (0 : Int) ≤ (q : Int) := by omega
          have hqb : (q : Int) < (k : Int) := by omega
          have HSW := Lib.hid (show ((ints (swK k ns j)).set p ((mAt (swK k ns j) q : Nat) : Int)).set q ((mAt (swK k ns j) p : Nat) : Int) = ints (swK k ns (j + 1)) from by rw [ints_swap (swK k ns j) p q, hp, hq, ← hze]; rfl)
          clear hz hze hp hq
          go_wp2_with fail
          go_quiet (fail)
          go_wp2_with fail
          clear e1 e1t e1n e2 e2t e2n wz wp wq' c0 g1 g2 g3
          refine any_world ((Ext.refl wr).drewN _) fun W hEW => ?_
          have HEW := Lib.hid hEW
          have hOW := ownsI_ext hO.out hEW
          have hln := (HNM.out j).len
          obtain ⟨b9, rfl, hB9, hL9, d1, k1, hs1⟩ := hOW.at (p := p) (by rw [ints_length, hln]; exact hpk)
          obtain ⟨b9', hb9, -, -, d2, k2, hs2⟩ := hOW.at (p := q) (by rw [ints_length, hln]; exact hqk)
          cases hb9
          rw [ints_getD (by rw [hln]; exact hpk)] at d1
          rw [ints_getD (by rw [hln]; exact hqk)] at d2
          have HA := hs1 ((mAt (swK k ns j) q : Nat) : Int)
          obtain ⟨b9', hb9, -, -, d3, k3, hs3⟩ := HA.at (p := q) (by rw [List.length_set, ints_length, hln]; exact hqk)
          cases hb9
          have hB := hs3 ((mAt (swK k ns j) p : Nat) : Int)
          rw [HSW.out] at hB
          replace hB := ownsI_ext hB (Ext.refl _).drew
          have HE9 := Lib.hid (show ∀ u v : Value, Ext w1 ((W.setCell ⟨b9, p, none⟩ u).setCell ⟨b9, q, none⟩ v).drew from fun u v => Ext.drew (Below.setCell (Below.setCell (hE.out.trans hEW) (p := ⟨b9, p, none⟩) hB9 _) (p := ⟨b9, q, none⟩) hB9 _))
          obtain ⟨np, hnp⟩ : ∃ np, np = mAt (swK k ns j) p := ⟨_, rfl⟩
          obtain ⟨nq, hnq⟩ : ∃ nq, nq = mAt (swK k ns j) q := ⟨_, rfl⟩
          rw [← hnp] at d1 hB
          rw [← hnq] at d2 d3 k3 hB
          obtain ⟨nd, hnd⟩ : ∃ nd, nd = ((ints (swK k ns j)).set p (nq : Int)).getD q 0 := ⟨_, rfl⟩
          rw [← hnd] at d3
          have HB := Lib.hid hB
          clear hEW hOW hln hs1 hs2 hs3 HA hnp hnq hnd HSW hB hB9 hL9 hO
          go_region_law (fail)
          all_goals
            go_wp2_with fail
            go_roundw
            case rel => exact ⟨j + 1, by omega, by go_num, HE9.out _ _, HB.out⟩
            case measure => simp [RowKit.intOf]; omega
        · obtain rfl : j = m := by omega
          have hO2 := hO.out
          rw [← HSIG.out] at hO2
          have HNA0 := Lib.hid (hO2.reads (by rw [ints_length, HNMS.out.len]; omega) : Reads wr (.slice a9 k cap9) (ints σ))
          have HP3 := Lib.hid (show OffAt wr w.heap.size (.int .i64 (k : Int)) (.int .i64 (L : Int)) (.slice a n cap) from ⟨g1, g2, g3⟩)
          have HE3 := Lib.hid hE.out
          have HB3 := Lib.hid (heap_alloc_new wr (.cells #[.int .i64 (k : Int), .int .i64 (L : Int), .slice none 0 0] 24))
          have HEA := Lib.hid ((Ext.refl wr).alloc (.cells #[.int .i64 (k : Int), .int .i64 (L : Int), .slice none 0 0] 24))
          clear hO hO2 hE
          rename World => w2
          go_wp2_with fail
          clear g1 g2 g3
          go_loopw [15] (fun i wq => ∃ c : Nat, c ≤ n ∧ i = .int .i64 (c : Int) ∧ Hid (Ext w2 wq) ∧ Hid (∃ u, wq.heap[w2.heap.size]? = some (.cells #[.int .i64 (k : Int), .int .i64 (L : Int), u] 24 (0, 0)) ∧ Owns (w2.heap.size + 1) wq u (ints (nmL σ k (ms.take c))))) (fun i wq => n - (RowKit.intOf i).toNat)
          case atStart => exact ⟨0, Nat.zero_le _, rfl, HEA.out, ⟨Value.slice none 0 0, HB3.out, Owns.nil _ _⟩⟩
          case round =>
            obtain ⟨c, hc, rfl, hE, hI⟩ := hrel
            obtain ⟨g1, g2, g3⟩ := HP3.out.ext hE.out
            obtain ⟨u, hbx, hOu⟩ := hI.out
            obtain ⟨au, capu, rfl, -⟩ := own_shape hOu
            obtain ⟨lu, hlu⟩ : ∃ lu, lu = (ints (nmL σ k (ms.take c))).length := ⟨_, rfl⟩
            rw [← hlu] at hbx hOu
            have HBX := Lib.hid hbx
            have HOU := Lib.hid hOu
            clear hbx hOu hlu hI
            by_cases hlt : c < n
            · obtain ⟨mm, hmm⟩ := get_some (show c < ms.length by rw [← HN.out]; exact hlt)
              have hm1024 := HMS.out c mm hmm
              obtain ⟨b1, off1, hbo, -, c0⟩ := (HR.out.ext (HE1.out.trans (HE3.out.trans hE.out))).atN hmm
              subst hbo
              have hca : (0 : Int) ≤ (c : Int) := by omega
              have hcb : (c : Int) < (n : Int) := by omega
              have HXT2 := Lib.hid (HXT.out c mm hmm)
              have x2 := cell_of_blk HBX.out (o := 2) rfl
              have H54m := Lib.hid (fun W h => H54.out a9 cap9 mm hm1024 W h)
              obtain ⟨nw, hnw⟩ : ∃ nw, nw = nmTo σ mm k := ⟨_, rfl⟩
              rw [← hnw] at H54m HXT2
              have HLE := Lib.hid (show (ints (nmL σ k (ms.take c))).length ≤ 5000 from by rw [ints_length]; have := HXL.out c; omega)
              have HSZ := Lib.hid (show w2.heap.size + 1 ≤ wr.heap.size from lt_of_blk HBX.out)
              have hEA := (Ext.refl wr).alloc (.cells #[.int .i64 (nw : Int)] 3)
              have hEAd := hEA.drew
              have x2a := cell_of_blk (block_ext hEA HBX.out) (o := 2) rfl
              have HOA := Lib.hid (ownsI_ext HOU.out hEAd)
              have HBA := Lib.hid (block_ext hEAd HBX.out)
              have HEAd := Lib.hid hEAd
              have HNAd := Lib.hid (HNA0.out.ext (hE.out.trans (Ext.refl wr).drew))
              clear hmm hnw hEA hEAd
              go_wp2_with fail
              go_region_law (first
                | (go_simp; refine (H54m.out _ HNAd.out).mono ?_; rintro e w' ⟨rfl, rfl⟩; try dsimp only)
                | (refine step_appendO (by rfl) _ _ (by rfl) _ (by rfl) _ (w2.heap.size + 1) (ints (nmL σ k (ms.take c))) (nw : Int) HOA.out (Nat.le_trans HSZ.out (Below.size HEAd.out)) HLE.out wr.heap.size (by rfl) (World.cell?_alloc_at _ _ _ _ rfl) ?_; intro v6 w6 hO6 hB6; have hb6 := (hB6.block w2.heap.size (Nat.lt_succ_self _)).trans HBA.out; obtain ⟨a6, cap6, rfl, -⟩ := own_shape hO6; obtain ⟨l6, hl6⟩ : ∃ x', x' = (ints (nmL σ k (ms.take c)) ++ [(nw : Int)]).length := ⟨_, rfl⟩; rw [← hl6] at hO6 ⊢; have x6 := cell_of_blk hb6 (o := 2) rfl; have f6 := frozen_of_blk hb6 2; have HR6 := Lib.hid (row2_set hb6 (.slice a6 l6 cap6)); have HO6 := Lib.hid (hO6.below_set (o := 2) (Nat.lt_succ_self w2.heap.size) (.slice a6 l6 cap6)); have HE6 := Lib.hid (show Ext w2 (w6.setCell ⟨w2.heap.size, 2, none⟩ (.slice a6 l6 cap6)) from Below.setCell (Below.trans (hE.out.trans HEAd.out) (Below.mono hB6 (Nat.le_succ _))) (p := ⟨w2.heap.size, 2, none⟩) (Nat.le_refl _) _); clear hO6 hB6 hl6 hb6))
              all_goals
                go_wp2_with fail
                go_roundw
                case rel => exact ⟨c + 1, by omega, by go_num, HE6.out, ⟨_, HR6.out, by rw [HXT2.out]; unfold ints; rw [List.map_append]; exact HO6.out⟩⟩
                case measure => simp [RowKit.intOf]; omega
            · obtain rfl : c = n := by omega
              have HXR := Lib.hid (show Reads wr (.slice au lu capu) (ints X) from by have h1 := HOU.out.reads (by rw [ints_length]; have := HXL.out c; omega); rw [HXE.out] at h1; exact h1)
              have x0 := cell_of_blk HBX.out (o := 0) rfl
              have x1 := cell_of_blk HBX.out (o := 1) rfl
              have x2 := cell_of_blk HBX.out (o := 2) rfl
              have HPX := Lib.hid (show OffAt wr w2.heap.size (.int .i64 (k : Int)) (.int .i64 (L : Int)) (.slice au lu capu) from ⟨x0, x1, x2⟩)
              have HNA := Lib.hid (HNA0.out.ext hE.out)
              have HPO := Lib.hid (show OffAt wr w.heap.size (.int .i64 (k : Int)) (.int .i64 (L : Int)) (.slice a c cap) from ⟨g1, g2, g3⟩)
              have HW3 := Lib.hid (HE1.out.trans (HE3.out.trans hE.out))
              have H54w := Lib.hid (show ∀ W, Reads W (.slice a9 k cap9) (ints σ) → Calls Try.prog 54 #[.int .i64 (xv : Int), .slice a9 k cap9] W fun e w' => e = .returned (.int .i64 (xn : Int)) ∧ W = w' from fun W h => by
                have h1 := H54.out a9 cap9 xv hxv W h
                rw [← HWL.out.2] at h1; exact h1)
              clear hE hlt HNA0 HBX HOU HXT H54 HXE HXL HNM HSIG HU HBD HP1 HP3 HE3 HEA HB3
              rename World => w3
              have HZ := Lib.hid (Ext.refl w3)
              go_wp2_with fail
              refine (H19.out _ HW3.out).mono ?_
              rintro e w4 ⟨u1, rfl, hu1, hb⟩
              obtain ⟨hl1, a1, cap1, rfl⟩ := hu1.shape
              rw [ints_length, ← HLO.out] at hu1 hl1 ⊢
              have R1 := Lib.hid hu1
              replace HZ := Lib.hid (HZ.out.trans hb)
              clear hu1 hb g1 g2 g3 x0 x1 x2
              obtain ⟨x0, x1, x2⟩ := HPX.out.ext HZ.out
              go_wp2_with fail
              have HKP := Lib.hid (show ∀ X X' : World, (fun X : World => X.cell? ⟨w2.heap.size, 0, none⟩ = some (.int .i64 (k : Int)) ∧ X.cell? ⟨w2.heap.size, 1, none⟩ = some (.int .i64 (L : Int)) ∧ X.cell? ⟨w2.heap.size, 2, none⟩ = some (.slice au lu capu) ∧ Hid (Ext w4 X)) X → Ext X X' → (fun X : World => X.cell? ⟨w2.heap.size, 0, none⟩ = some (.int .i64 (k : Int)) ∧ X.cell? ⟨w2.heap.size, 1, none⟩ = some (.int .i64 (L : Int)) ∧ X.cell? ⟨w2.heap.size, 2, none⟩ = some (.slice au lu capu) ∧ Hid (Ext w4 X)) X' from fun X X' h hb => ⟨cell_ext hb h.1, cell_ext hb h.2.1, cell_ext hb h.2.2.1, Lib.hid (Ext.trans h.2.2.2.out hb)⟩)
              refine wp_region_order (fun X : World => X.cell? ⟨w2.heap.size, 0, none⟩ = some (.int .i64 (k : Int)) ∧ X.cell? ⟨w2.heap.size, 1, none⟩ = some (.int .i64 (L : Int)) ∧ X.cell? ⟨w2.heap.size, 2, none⟩ = some (.slice au lu capu) ∧ Hid (Ext w4 X)) [0, 1, 2, 3, 4, 5, 6, 7, 8, 9] (by kernel_rfl) (by kernel_rfl) (⟨x0, x1, x2, Lib.hid (Ext.refl w4).drew⟩) (fun hHeld => ?_)
              simp only [opsIn, List.filterMap_cons, List.filterMap_nil, List.getElem?_toArray, List.getElem?_cons_succ, List.getElem?_cons_zero]
              refine' text_chunk 3 (by kernel_rfl) hHeld ?ck1 ?cr1
              case ck1 =>
                intro W hSw
                have hSW := hSw
                try dsimp only at hSW
                clear hSw
                simp only [List.take_succ_cons, List.take_zero, List.drop_succ_cons, List.drop_zero]
                repeat (go_big_quiet_step (fail))
                exact wpQuiet_nil rfl
              simp only [List.take_succ_cons, List.take_zero, List.drop_succ_cons, List.drop_zero]
              refine text_call (by rfl) (by rfl) (fun K hK => ?_)
              go_simp
              (go_at_call 54; refine (H54w.out _ (HNA.out.ext (HZ.out.trans (Ext.refl w4).drew))).mono ?_; rintro e w5 ⟨rfl, rfl⟩)
              all_goals (try (go_wp2_with fail))
              refine hK.out _ _ (by assumption) (fun hHeld => ?_)
              clear hK K
              try simp only [Act.put, List.setIfInBounds_toArray, List.set_cons_zero, List.set_cons_succ]
              refine text_call (by rfl) (by rfl) (fun K hK => ?_)
              go_simp
              (go_at_call 19; refine (H19x.out _ _ (HXR.out.ext (HZ.out.trans (Ext.refl w4).drew))).mono ?_; rintro e w5 ⟨u2, rfl, hu2, hb⟩; obtain ⟨hl2, a2, cap2, rfl⟩ := hu2.shape; rw [ints_length, ← HLO.out] at hu2 hl2 ⊢; have R2 := Lib.hid hu2; clear hu2; replace R1 := Lib.hid (R1.out.ext ((Ext.refl w4).drew.trans hb)))
              all_goals (try (go_wp2_with fail))
              refine hK.out _ _ (HKP.out _ _ (by assumption) hb) (fun hHeld => ?_)
              clear hK K
              try simp only [Act.put, List.setIfInBounds_toArray, List.set_cons_zero, List.set_cons_succ]
              refine' text_chunk 5 (by kernel_rfl) hHeld ?ck2 ?cr2
              case ck2 =>
                intro W hSw
                have hSW := hSw
                try dsimp only at hSW
                clear hSw
                simp only [List.take_succ_cons, List.take_zero, List.drop_succ_cons, List.drop_zero]
                repeat (go_big_quiet_step (fail))
                exact wpQuiet_nil rfl
              simp only [List.take_succ_cons, List.take_zero, List.drop_succ_cons, List.drop_zero]
              refine text_done ?_
              have hk := hHeld
              obtain ⟨-, -, -, hk4⟩ := hk
              replace HZ := Lib.hid (HZ.out.trans hk4.out)
              clear hHeld hk4 x0 x1 x2
              obtain ⟨g1, g2, g3⟩ := HPO.out.ext (HZ.out)
              go_wp2_with fail
              refine (H28.out _ (HW3.out.trans HZ.out)).mono ?_
              rintro e w5 ⟨rfl, hb⟩
              replace HZ := Lib.hid (HZ.out.trans hb)
              replace R1 := Lib.hid (R1.out.ext hb)
              replace R2 := Lib.hid (R2.out.ext hb)
              clear hb g1 g2 g3
              obtain ⟨x0, x1, x2⟩ := HPX.out.ext (HZ.out)
              go_wp2_with fail
              refine (H28x.out _ _ (HXR.out.ext HZ.out)).mono ?_
              rintro e w5 ⟨rfl, hb⟩
              replace HZ := Lib.hid (HZ.out.trans hb)
              replace R1 := Lib.hid (R1.out.ext hb)
              replace R2 := Lib.hid (R2.out.ext hb)
              clear hb x0 x1 x2
              obtain ⟨g1, g2, g3⟩ := HPO.out.ext (HZ.out)
              go_wp2_with fail
              refine (H35.out _ (HW3.out.trans HZ.out)).mono ?_
              rintro e w5 ⟨u3, rfl, hu3, hb⟩
              replace HZ := Lib.hid (HZ.out.trans hb)
              replace R1 := Lib.hid (R1.out.ext hb)
              replace R2 := Lib.hid (R2.out.ext hb)
              obtain ⟨hl3, a4, cap4, rfl⟩ := hu3.shape
              rw [ints_length, ← HLF.out.1] at hl3 ⊢
              clear hu3
              clear hb g1 g2 g3
              obtain ⟨x0, x1, x2⟩ := HPX.out.ext (HZ.out)
              go_wp2_with fail
              refine (H35x.out _ _ (HXR.out.ext HZ.out)).mono ?_
              rintro e w5 ⟨u4, rfl, hu4, hb⟩
              replace HZ := Lib.hid (HZ.out.trans hb)
              replace R1 := Lib.hid (R1.out.ext hb)
              replace R2 := Lib.hid (R2.out.ext hb)
              obtain ⟨hl4, a5, cap5, rfl⟩ := hu4.shape
              rw [ints_length, ← HLF.out.2] at hl4 ⊢
              clear hu4
              clear hb x0 x1 x2
              have H23 := fun W (h1 : Reads W (.slice a1 lo cap1) (ints ow)) (h2 : Reads W (.slice a2 lo cap2) (ints ow)) => ints_eq a1 a2 lo (ints ow) (ints ow) cap1 cap2 W (by rw [ints_length]; exact HLO.out.symm) (by rw [ints_length]; exact HLO.out.symm) h1 h2
              rw [show (ints ow == ints ow) = true from by simp] at H23
              have H23h := Lib.hid H23; clear H23
              go_wp2_with fail
              refine (H23h.out _ R1.out R2.out).mono ?_
              rintro e w9 ⟨rfl, hb⟩
              replace HZ := Lib.hid (HZ.out.trans hb); clear hb
              obtain ⟨g1, g2, g3⟩ := HPO.out.ext (HZ.out)
              by_cases hn0 : c = 0
              · subst hn0
                go_wp2_with fail
                refine (works18 _).mono ?_
                rintro e w10 ⟨rfl, hb⟩
                replace HZ := Lib.hid (HZ.out.trans hb); clear hb
                go_wp2
                go_ret
                exact ⟨rfl, HW3.out.trans HZ.out⟩
              · have hnz := len_nil_false hn0
                have hnz2 : ¬ (c : Int) = 0 := by omega
                obtain ⟨i, hi⟩ : ∃ i, i = y % c := ⟨_, rfl⟩
                have hin : i < c := by rw [hi]; exact Nat.mod_lt _ (by omega)
                have e7 : (y : Int) % (c : Int) = (i : Int) := by rw [hi]; simp
                have e7t : ((y : Nat) : Int).tmod (c : Int) = (i : Int) := by rw [← Int.ofNat_tmod, hi]
                have e7n := hi.symm
                have wy : IntKind.i64.wrap (y : Int) = (y : Int) := wrapi64 _ (by omega)
                have wi : IntKind.i64.wrap (i : Int) = (i : Int) := wrapi64 _ (by omega)
                clear hi
                rcases HKE.out i hin with ⟨hk1, hk2⟩ | ⟨kk, jj, hk1, hk2, hk3, hk4, hpc⟩
                · have h32 := H32.out i hin; rw [hk1] at h32; simp only [keepV] at h32
                  have h32x := H32x.out i hin; rw [hk2] at h32x; simp only [keepV] at h32x
                  have H32i := Lib.hid h32; have H32xi := Lib.hid h32x
                  have h47 : ∀ W, Calls Try.prog 47 #[.int .i64 0] W fun e w' => e = .returned (.int .i64 (pc 0 : Int)) ∧ W = w' := fun W => size_any 0 (by decide) W
                  have H47 := Lib.hid h47; have H47b := Lib.hid h47
                  clear h32 h32x hk1 hk2 h47
                  go_wp2_with fail
                  refine (H30.out i hin _ (HW3.out.trans HZ.out)).mono ?_
                  rintro e w10 ⟨rfl, hb⟩
                  replace HZ := Lib.hid (HZ.out.trans hb)
                  clear hb 
                  clear g1 g2 g3
                  obtain ⟨x0, x1, x2⟩ := HPX.out.ext (HZ.out)
                  go_wp2_with fail
                  refine (H30x.out i hin _ _ (HXR.out.ext HZ.out)).mono ?_
                  rintro e w11 ⟨rfl, hb⟩
                  replace HZ := Lib.hid (HZ.out.trans hb)
                  clear hb x0 x1 x2
                  obtain ⟨g1, g2, g3⟩ := HPO.out.ext (HZ.out)
                  go_wp2_with fail
                  refine (H32i.out _ (HW3.out.trans HZ.out)).mono ?_
                  rintro e w12 ⟨rfl, hb⟩
                  replace HZ := Lib.hid (HZ.out.trans hb)
                  clear hb g1 g2 g3
                  obtain ⟨x0, x1, x2⟩ := HPX.out.ext (HZ.out)
                  go_wp2_with fail
                  refine (H32xi.out _ _ (HXR.out.ext HZ.out)).mono ?_
                  rintro e w13 ⟨rfl, hb⟩
                  replace HZ := Lib.hid (HZ.out.trans hb)
                  clear hb x0 x1 x2
                  go_wp2_with fail
                  refine (H47.out _).mono ?_
                  rintro e w14 ⟨rfl, rfl⟩
                  go_wp2_with fail
                  refine (H47b.out _).mono ?_
                  rintro e w15 ⟨rfl, rfl⟩
                  go_wp2_with fail
                  refine (works18 _).mono ?_
                  rintro e w16 ⟨rfl, hb⟩
                  replace HZ := Lib.hid (HZ.out.trans hb); clear hb
                  go_wp2
                  go_ret
                  exact ⟨rfl, HW3.out.trans HZ.out⟩
                · have h32 := H32.out i hin; rw [hk1] at h32; simp only [keepV] at h32
                  have h32x := H32x.out i hin; rw [hk2] at h32x; simp only [keepV] at h32x
                  have H32i := Lib.hid h32; have H32xi := Lib.hid h32x
                  have H47 := Lib.hid (fun W => size_any kk hk3 W)
                  have h47 := fun W => size_any jj hk4 W
                  rw [← hpc] at h47
                  have H47b := Lib.hid h47
                  clear h32 h32x hk1 hk2 h47 hpc
                  go_wp2_with fail
                  refine (H30.out i hin _ (HW3.out.trans HZ.out)).mono ?_
                  rintro e w10 ⟨rfl, hb⟩
                  replace HZ := Lib.hid (HZ.out.trans hb)
                  clear hb 
                  clear g1 g2 g3
                  obtain ⟨x0, x1, x2⟩ := HPX.out.ext (HZ.out)
                  go_wp2_with fail
                  refine (H30x.out i hin _ _ (HXR.out.ext HZ.out)).mono ?_
                  rintro e w11 ⟨rfl, hb⟩
                  replace HZ := Lib.hid (HZ.out.trans hb)
                  clear hb x0 x1 x2
                  obtain ⟨g1, g2, g3⟩ := HPO.out.ext (HZ.out)
                  go_wp2_with fail
                  refine (H32i.out _ (HW3.out.trans HZ.out)).mono ?_
                  rintro e w12 ⟨rfl, hb⟩
                  replace HZ := Lib.hid (HZ.out.trans hb)
                  clear hb g1 g2 g3
                  obtain ⟨x0, x1, x2⟩ := HPX.out.ext (HZ.out)
                  go_wp2_with fail
                  refine (H32xi.out _ _ (HXR.out.ext HZ.out)).mono ?_
                  rintro e w13 ⟨rfl, hb⟩
                  replace HZ := Lib.hid (HZ.out.trans hb)
                  clear hb x0 x1 x2
                  go_wp2_with fail
                  refine (H47.out _).mono ?_
                  rintro e w14 ⟨rfl, rfl⟩
                  go_wp2_with fail
                  refine (H47b.out _).mono ?_
                  rintro e w15 ⟨rfl, rfl⟩
                  go_wp2_with fail
                  refine (works18 _).mono ?_
                  rintro e w16 ⟨rfl, hb⟩
                  replace HZ := Lib.hid (HZ.out.trans hb); clear hb
                  go_wp2
                  go_ret
                  exact ⟨rfl, HW3.out.trans HZ.out⟩
end Go.Proofs.Ytlgdnbpboonhdaa
