/- part, by its contract: a stem from a place up to another one. -/
import Derived.Test.YtcgheakadfjofaaQ1
import Derived.Test.YtcgheakadfjofaaH4
import Derived.Laws.OwnMore
import Derived.Deep.RegionLaw
namespace Go.Proofs.Ytcgheakadfjofaa
open Go.RowKit
set_option linter.unusedVariables false
set_option linter.unusedSimpArgs false
theorem append_none22 (v : Value) (n c : Nat) (xs : List Value) (B : Nat) (w : World) (hown : w.ownsRow B 2 1 v n xs) (ty : TypeId) :
    (Builtin.append_ #[22, 22] ty #[v, .slice none 0 c]).run Try.prog w = .ok v w := by
  obtain ⟨i0, hi0, hz0, hz1, hz2⟩ := info_parts Try.info2
  rcases hown.2 with ⟨rfl, rfl⟩ | ⟨g, cap, cur, rfl, _, _, hnc, _⟩
  · simp [Builtin.append_, run_underlying Try.underlying22, sizeOf, typeInfo, hi0, Builtin.lenOf, Builtin.firstCells]
  · simp [Builtin.append_, run_underlying Try.underlying22, sizeOf, typeInfo, hi0, Builtin.lenOf, Builtin.firstCells, hnc, storeCells]
/-- The append of a list to an own one. -/
theorem appendS {ops : Array Oper} {rest : List Oper} {o : Oper} {a : Act} {Q : Exit → Act → World → Prop} (w : World) (B : Nat) (xs ys : List Int) (v u : Value) (s t : Operand) (hgd : o.guard = none)
    (ho : o.op = .call { callee := .builtin .append, args := #[s, t], argTypes := #[22, 22] }) (hs : a.eval s = v) (hown : OwnI 2 B w v xs) (hB : B ≤ w.heap.size) (hl : xs.length ≤ 5000)
    (hx : a.eval t = u) (hu : Reads w u ys)
    (h : ∀ v' w', OwnI 2 B w' v' (xs ++ ys) → Below B w w' → wpList Try.prog ops Q rest (a.put o.dst v') w') : wpList Try.prog ops Q (o :: rest) a w := by
  obtain ⟨hyl, ua, ucap, rfl, hu⟩ := hu
  rcases hu with ⟨rfl, rfl⟩ | ⟨b, off, rfl, hc⟩
  · refine wpList_plain hgd fun _ hK => ?_
    unfold Oper.wp execOp
    simp only [ho, resolve, invoke, builtin, Sem.run_bind, Sem.run_pure, Result.andThen_ok, List.map_toArray, List.map_cons, List.map_nil, hs, hx, List.length_nil, append_none22 v _ ucap _ B w hown]
    exact hK _ _ (h v w (by simpa using hown) (Below.refl _ _))
  · obtain ⟨i0, hi0, hz0, hz1, hz2⟩ := info_parts Try.info2
    refine wpList_append_own _ hgd s t 22 ho B 2 i0 (.int .i64 0) 1 8 Try.underlying22 hi0 hz0 hz1 hz2 rfl (by decide) v _ _ hs hown ⟨b, off, none⟩ ys.length ucap (ys.map (Value.int .i64)) hx (by simp) ?_ ?_ ?_ ?_ ?_ ?_
    · intro j u hj
      have hadd : (⟨b, off, none⟩ : Addr).add j = ⟨b, off + j, none⟩ := by unfold Addr.add; split <;> simp_all
      rw [List.getElem?_map] at hj
      cases hy : ys[j]? with
      | none => rw [hy] at hj; simp at hj
      | some y =>
        rw [hy] at hj
        simp at hj
        have hjl : j < ys.length := (List.getElem?_eq_some_iff.1 hy).1
        have := hc j hjl
        rw [hy] at this
        rw [hadd, this, ← hj]; rfl
    · intro u hu
      rw [List.mem_map] at hu
      obtain ⟨y, -, rfl⟩ := hu
      rfl
    · unfold maxLen; omega
    · omega
    · exact hB
    · intro v' w' h1 h2 _
      refine h v' w' ?_ ?_
      · unfold OwnI
        rw [List.length_append, List.map_append]
        exact h1
      · exact (Below.refl B w).grown h2 (by omega) fun k hk => (hown.lt k hk).1
theorem appendI_run (w : World) (B : Nat) (xs : List Int) (x : Int) (v : Value) (hown : OwnI 3 B w v xs) (hB : B ≤ w.heap.size) (hl : xs.length ≤ 5000) (b : Nat) (hx : w.cell? ⟨b, 0, none⟩ = some (.int .i64 x)) (ty : TypeId) :
    ∃ v' w', (Builtin.append_ #[23, 23] ty #[v, .slice (some ⟨b, 0, none⟩) 1 1]).run Try.prog w = .ok v' w' ∧ OwnI 3 B w' v' (xs ++ [x]) ∧ Below B w w' := by
  obtain ⟨i0, hi0, hz0, hz1, hz2⟩ := info_parts Try.info3
  obtain ⟨v', w', hrun, r1, r2, _⟩ := run_append_own (P := Try.prog) w B 23 ty 3 i0 (.int .i64 0) 1 8 Try.underlying23 hi0 hz0 hz1 hz2 rfl (by decide) v _ _ hown ⟨b, 0, none⟩ 1 1 [.int .i64 x] rfl (fun j u hj => by
    match j, hj with
    | 0, hj => simp at hj; subst hj; rw [addr_add]; exact hx) (fun u hu => by simp at hu; subst hu; rfl) (by unfold maxLen; omega) (by omega) hB
  refine ⟨v', w', hrun, ?_, ?_⟩
  · unfold OwnI; simpa using r1
  · exact (Below.refl B w).grown r2 (by omega) fun k hk => (hown.lt k hk).1
theorem step_appendI {ops : Array Oper} {o : Oper} {a : Act} {K : Act → World → Prop} {Q : Exit → Act → World → Prop} {E : Prop} (hgd : o.guard = none) (s u : Operand)
    (ho : o.op = .call { callee := .builtin .append, args := #[s, u], argTypes := #[23, 23] }) (v : Value) (hs : a.eval s = v) (w : World) (B : Nat) (xs : List Int) (x : Int) (hown : OwnI 3 B w v xs) (hB : B ≤ w.heap.size) (hl : xs.length ≤ 5000)
    (b : Nat) (hu : a.eval u = .slice (some ⟨b, 0, none⟩) 1 1) (hx : w.cell? ⟨b, 0, none⟩ = some (.int .i64 x)) (h : ∀ v' w', OwnI 3 B w' v' (xs ++ [x]) → Below B w w' → K (a.put o.dst v') w') :
    if Region.wanted o (yielded ops a.tmps) = true then Oper.wp Try.prog o a w K Q else E := by
  have hw : Region.wanted o (yielded ops a.tmps) = true := by simp [Region.wanted, hgd]
  rw [if_pos hw]
  obtain ⟨v', w', hrun, h1, h2⟩ := appendI_run w B xs x v hown hB hl b hx o.type
  unfold Oper.wp
  simp [execOp, ho, resolve, invoke, builtin, hs, hu, hrun, Result.andThen]
  exact h _ _ h1 h2
attribute [local go_sem] Oper.semAt_some
set_option maxRecDepth 100000 in
set_option maxHeartbeats 1000000 in
theorem part42 (a : Option Addr) (cap : Nat) (vb : Value) (th bd : List Int) (f t : Nat) (w : World) (ht : Reads w (.slice a th.length cap) th) (hd : Reads w vb bd) (hcap : th.length ≤ cap) (hft : f < t) (htn : t + 1 ≤ th.length) (h61 : th.length ≤ 61) (hbb : ∀ x ∈ bd, 0 ≤ x ∧ x ≤ 100) :
    Calls Try.prog 42 #[.agg #[.slice a th.length cap, vb], .int .i64 (f : Int), .int .i64 (t : Int)] w fun e w' => ∃ v1 v2, e = .returned (.agg #[v1, v2]) ∧ Reads w' v1 ((th.drop f).take (t + 1 - f)) ∧ Reads w' v2 (prtB bd f t) ∧ Ext w w' := by
  obtain ⟨hl', a', cap', rfl⟩ := hd.shape
  obtain ⟨b0, off, x0, rfl, -, -⟩ := ht.at (show 0 < th.length by omega)
  have hys : Reads w (.slice (some ⟨b0, off + f, none⟩) (t + 1 - f) (cap - f)) ((th.drop f).take (t + 1 - f)) := by
    obtain ⟨hl, a1, cap1, e1, h | ⟨b1, off1, e2, hc⟩⟩ := ht
    · cases e1; exact absurd h.1 (by intro h; cases h)
    · cases e1; cases e2
      have hlen : ((th.drop f).take (t + 1 - f)).length = t + 1 - f := by simp; omega
      refine ⟨by omega, _, _, by rw [hlen], .inr ⟨b0, off + f, rfl, fun i hi => ?_⟩⟩
      rw [hlen] at hi
      have := hc (f + i) (by omega)
      rw [← Nat.add_assoc] at this
      rw [this, List.getElem?_take_of_lt hi, List.getElem?_drop]
  obtain ⟨n, hn⟩ : ∃ n, n = th.length := ⟨_, rfl⟩
  obtain ⟨nb, hnb⟩ : ∃ n, n = bd.length := ⟨_, rfl⟩
  rw [← hn] at ht hcap htn h61 ⊢
  rw [← hnb] at hd hl' ⊢
  have hE1 := (Ext.refl w).alloc (.cells #[.slice (some ⟨b0, off, none⟩) n cap, .slice a' nb cap'] 25)
  have hE2 := hE1.alloc (.cells #[.slice none 0 0, .slice none 0 0] 25)
  have hE3 := hE2.alloc (.cells #[] 2)
  have HYS := Lib.hid (hys.ext hE3)
  have hO := World.ownsRow_made ((w.alloc (.cells #[.slice (some ⟨b0, off, none⟩) n cap, .slice a' nb cap'] 25)).alloc (.cells #[.slice none 0 0, .slice none 0 0] 25)) (base := w.heap.size + 2) (e := 2) (size := 1) #[] 0 (by simp [World.size_alloc]) (by simp) rfl
  have P0 := Lib.hid ((StemAt.new w (.slice (some ⟨b0, off, none⟩) n cap) (.slice a' nb cap') 25).ext ((Ext.refl _).alloc (.cells #[.slice none 0 0, .slice none 0 0] 25) |>.alloc (.cells #[] 2)))
  have HE3 := Lib.hid hE3
  obtain ⟨g1, g2⟩ := P0.out
  have hw1 : IntKind.i64.wrap ((t : Int) + 1) = ((t + 1 : Nat) : Int) := by rw [wrapi64 _ (by omega) (by omega)]; omega
  have hz1 : decide ((0 : Int) ≤ (f : Int)) = true := by simp
  have hz2 : decide ((f : Int) ≤ ((t + 1 : Nat) : Int)) = true := by simp; omega
  have hz3 : decide (((t + 1 : Nat) : Int) ≤ (cap : Int)) = true := by simp; omega
  simp only [World.size_alloc] at hO
  have HO := Lib.hid hO
  have hylen : ((th.drop f).take (t + 1 - f)).length ≤ 5000 := by rw [List.length_take]; omega
  generalize (th.drop f).take (t + 1 - f) = ys at *
  have HD := Lib.hid hd; have HNB := Lib.hid hnb; have HBB := Lib.hid hbb; have HYL := Lib.hid hylen
  clear ht hd hys hE1 hE2 hE3 hO hn hnb hbb hylen
  go_enter Try.func42, Try.ntmps42
  go_wp2_with (at_builtin; first
    | (refine appendS _ (w.heap.size + 2) [] ys _ _ _ _ rfl rfl rfl HO.out (by simp [World.size_alloc]) (by simp) rfl HYS.out ?_
       intro v1 w3 hO3 hB3
       obtain ⟨a1, cap1, rfl, -⟩ := hO3.shape
       obtain ⟨l1, hl1⟩ : ∃ x, x = ([] ++ ys : List Int).length := ⟨_, rfl⟩
       rw [← hl1] at hO3 ⊢
       have HL1 := Lib.hid hl1
       have HO3 := Lib.hid hO3
       have HB3 := Lib.hid hB3
       clear hO3 hB3 hl1 g1 g2)
    | fail)
  have hb1 := heap_alloc_new (w.alloc (.cells #[.slice (some ⟨b0, off, none⟩) n cap, .slice a' nb cap'] 25)) (.cells #[.slice none 0 0, .slice none 0 0] 25)
  simp only [World.size_alloc] at hb1
  have hb2 := (HB3.out.block (w.heap.size + 1) (by omega)).trans (block_ext ((Ext.refl _).alloc (.cells #[] 2)) hb1)
  have HR3 := Lib.hid hb2
  have HP3 := Lib.hid (show StemAt w3 w.heap.size (.slice (some ⟨b0, off, none⟩) n cap) (.slice a' nb cap') from ⟨(HB3.out.cell (p := ⟨w.heap.size, 0, none⟩) (by dsimp only; omega)).trans P0.out.1, (HB3.out.cell (p := ⟨w.heap.size, 1, none⟩) (by dsimp only; omega)).trans P0.out.2⟩)
  have HE3 := Lib.hid (show Ext w w3 from Below.trans HE3.out (HB3.out.mono (by omega)))
  clear hb1 hb2 HB3 HO P0 HYS
  refine (stem44 _ _ _ _ _ rfl).mono ?_
  rintro e w4 ⟨rfl, hb⟩
  have HO4 := Lib.hid (HO3.out.ext hb)
  have HR4 := Lib.hid (block_ext hb HR3.out)
  have HP4 := Lib.hid (HP3.out.ext hb)
  have HE4 := Lib.hid (HE3.out.trans hb)
  clear hb HO3 HR3 HP3 HE3
  have HB0 := Lib.hid (BadX.made (Ext.refl w4) (.slice a1 l1 cap1))
  go_wp2_with fail
  go_loopw [8] (fun s wr => ∃ k : Nat, k ≤ nb ∧ s = .int .i64 (k : Int) ∧ Hid (∃ bv, BadX w4 wr w4.heap.size (.slice a1 l1 cap1) bv (prtB (bd.take k) f t))) (fun s wr => nb - (intV s).toNat)
  case atStart => exact ⟨0, Nat.zero_le _, rfl, Lib.hid ⟨_, HB0.out⟩⟩
  case round =>
    clear HB0
    obtain ⟨k, hk, rfl, hBE⟩ := hrel
    obtain ⟨bv, hB⟩ := hBE.out
    obtain ⟨ab, capb, rfl, hcapb⟩ := hB.own.shape
    replace hB := Lib.hid hB
    clear hBE
    have hplen : (prtB (bd.take k) f t).length ≤ nb := Nat.le_trans (prtB_len _ _ _) (by rw [List.length_take]; omega)
    obtain ⟨bi, hbi⟩ : ∃ bi, bi = prtB (bd.take k) f t := ⟨_, rfl⟩
    rw [← hbi] at hB hplen hcapb
    obtain ⟨cl, hcl⟩ : ∃ x, x = bi.length := ⟨_, rfl⟩
    rw [← hcl] at hB hplen hcapb
    have HCL := Lib.hid hcl; have HBI := Lib.hid hbi
    clear hcl hbi
    obtain ⟨g1, g2⟩ := HP4.out.ext hB.out.ext
    by_cases hlk : k < nb
    · obtain ⟨b2, off2, x, rfl, hx, hcx⟩ := (HD.out.ext (HE4.out.trans hB.out.ext)).at (show k < bd.length by rw [← HNB.out]; exact hlk)
      have hxb := HBB.out x (List.mem_of_getElem? hx)
      have HS := Lib.hid (show prtB (bd.take (k + 1)) f t = bi ++ (if (decide ((f : Int) ≤ x) && decide (x < (t : Int))) = true then [x - f] else []) by rw [take_snoc hx, prtB_snoc, HBI.out])
      have hka : (0 : Int) ≤ (k : Int) := by omega
      have hkb : (k : Int) < (nb : Int) := by omega
      have htk : (k : Int).toNat = k := by omega
      clear hx
      by_cases hx1 : (f : Int) ≤ x
      · have hx1b : decide ((f : Int) ≤ x) = true := by simpa using hx1
        by_cases hx2 : x < (t : Int)
        · have hx2b : decide (x < (t : Int)) = true := by simpa using hx2
          have HN := Lib.hid (show prtB (bd.take (k + 1)) f t = bi ++ [x - f] by rw [HS.out, hx1b, hx2b]; rfl)
          have hwx : IntKind.i64.wrap (x - (f : Int)) = x - (f : Int) := wrapi64 _ (by omega) (by omega)
          clear hx1b hx2b
          obtain ⟨o0, o1, o2⟩ := hB.out.cells
          obtain ⟨c0, c1, -⟩ := (hB.out.turn ((Ext.refl wr).alloc (.cells #[.int .i64 (x - (f : Int))] 3))).cells
          have hBA := hB.out.turn (((Ext.refl wr).alloc (.cells #[.int .i64 (x - (f : Int))] 3)).drew)
          have HBA := Lib.hid hBA
          have HCL5 := Lib.hid (show bi.length ≤ 5000 by rw [← HCL.out]; omega)
          clear c0 o0 hBA
          go_wp2_with fail
          go_region_law ((refine step_appendI (by rfl) _ _ (by rfl) _ (by rfl) _ (w4.heap.size + 1) bi (x - (f : Int)) HBA.out.own HBA.out.lt HCL5.out wr.heap.size (by rfl) (World.cell?_alloc_at _ _ _ _ rfl) ?_; intro v6 w6 hO6 hB6; obtain ⟨k1, k2⟩ := HBA.out.mid hB6; obtain ⟨a6, cap6, rfl, -⟩ := hO6.shape; obtain ⟨l6, hl6⟩ : ∃ x', x' = (bi ++ [x - (f : Int)]).length := ⟨_, rfl⟩; rw [← hl6] at hO6 ⊢; have HP6 := Lib.hid (HBA.out.put hB6 hO6); clear hl6 hO6 hB6))
          all_goals
            go_wp2_with fail
            go_roundw
            case rel => exact ⟨k + 1, by omega, by go_num, Lib.hid ⟨_, by rw [HN.out]; exact HP6.out⟩⟩
            case measure => simp [intV]; omega
        · have hx2b : decide (x < (t : Int)) = false := by simpa using hx2
          have HN := Lib.hid (show prtB (bd.take (k + 1)) f t = bi by rw [HS.out, hx2b, Bool.and_false]; simp)
          clear hx1b
          go_wp2_with fail
          go_roundw
          case rel => exact ⟨k + 1, by omega, by go_num, Lib.hid ⟨_, by rw [HN.out]; exact hB.out⟩⟩
          case measure => simp [intV]; omega
      · have hx1b : decide ((f : Int) ≤ x) = false := by simpa using hx1
        have HN := Lib.hid (show prtB (bd.take (k + 1)) f t = bi by rw [HS.out, hx1b, Bool.false_and]; simp)
        go_wp2_with fail
        go_roundw
        case rel => exact ⟨k + 1, by omega, by go_num, Lib.hid ⟨_, by rw [HN.out]; exact hB.out⟩⟩
        case measure => simp [intV]; omega
    · have hkb : ¬ (k : Int) < (nb : Int) := by omega
      have hk2 : k = bd.length := by rw [← HNB.out]; omega
      have HTT := Lib.hid (show bi = prtB bd f t by rw [HBI.out, hk2, List.take_length])
      clear hk2
      obtain ⟨o0, o1, o2⟩ := hB.out.cells
      have q0 := block_ext hB.out.ext HR4.out
      have q1 := set_blk (o := 0) (cs := [.slice none 0 0, .slice none 0 0]) q0 (.slice a1 l1 cap1)
      have q2 := set_blk (o := 1) q1 (.slice ab cl capb)
      have c0 : wr.cell? ⟨w.heap.size + 1, 0, none⟩ = some (.slice none 0 0) := cell_of_blk q0 rfl
      have f0 := frozen_of_blk q0 0
      have c1 : (wr.setCell ⟨w.heap.size + 1, 0, none⟩ (.slice a1 l1 cap1)).cell? ⟨w.heap.size + 1, 1, none⟩ = some (.slice none 0 0) := cell_of_blk q1 rfl
      have f1 := frozen_of_blk q1 1
      have d1 : wr.cell? ⟨w.heap.size + 1, 1, none⟩ = some (.slice none 0 0) := cell_of_blk q0 rfl
      have e1 := frozen_of_blk q0 1
      have HQ2 := Lib.hid q2
      have hsz4 : w.heap.size + 2 ≤ w4.heap.size := (Array.getElem?_eq_some_iff.1 HR4.out).1
      have HW := Lib.hid (show ∀ W : World, W = (wr.setCell ⟨w.heap.size + 1, 0, none⟩ (.slice a1 l1 cap1)).setCell ⟨w.heap.size + 1, 1, none⟩ (.slice ab cl capb) → Reads W (.slice a1 l1 cap1) ys ∧ Reads W (.slice ab cl capb) (prtB bd f t) ∧ Ext w W from by
        rintro W rfl
        have g0 := grown_set wr (w.heap.size + 1) 0 (.slice a1 l1 cap1)
        have g1 := grown_set (wr.setCell ⟨w.heap.size + 1, 0, none⟩ (.slice a1 l1 cap1)) (w.heap.size + 1) 1 (.slice ab cl capb)
        have h1 : OwnI 2 (w.heap.size + 2) wr (.slice a1 l1 cap1) ([] ++ ys) := HO4.out.ext hB.out.ext
        have h2 := hB.out.own
        refine ⟨?_, ?_, grown_new (grown_new (HE4.out.trans hB.out.ext) g0 (by omega)) g1 (by omega)⟩
        · exact ((h1.grown g0 (by omega)).grown g1 (by omega)).reads HYL.out
        · rw [← HTT.out]
          exact ((h2.grown g0 (by omega)).grown g1 (by omega)).reads (by rw [← HCL.out]; omega))
      clear q0 q1 q2
      go_wp2_with fail
      obtain ⟨z1, z2, z3⟩ := HW.out _ rfl
      refine bodyPost_ret (results_cell_row (P := Try.prog) Try.results42 _ _ (w.heap.size + 1) 25 _ (0, 0) _ rfl HQ2.out Try.underlying25 rfl (by kernel_rfl)) rfl ⟨_, _, rfl, z1, z2, z3⟩
end Go.Proofs.Ytcgheakadfjofaa
