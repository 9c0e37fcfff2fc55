/- BoomTurned, by its contract. -/
import Derived.Test.YtppjnpempgpkaaaGreatS6
import Derived.Test.YtppjnpempgpkaaaGreatFI
import Derived.Test.YtppjnpempgpkaaaGreatTU
import Derived.Test.YtppjnpempgpkaaaGreatZT
import Derived.Test.YtppjnpempgpkaaaGreatH7
import Derived.Test.YtppjnpempgpkaaaGreatH6
import Derived.Test.YtppjnpempgpkaaaGreatN3
import Derived.Test.YtppjnpempgpkaaaGreatK1
namespace Go.Proofs.YtppjnpempgpkaaaGreat
open Go.RowKit Go.Shelf
set_option linter.unusedVariables false
set_option linter.unusedSimpArgs false
attribute [local go_sem] Oper.semAt_some

theorem INF4 {a b c d : Value} : (Tryz.prog.info? 24).map (·.size) = some (#[a, b, c, d] : Array Value).size := by
  show _ = some 4
  kernel_rfl
theorem ONE4 (x y : Int) (a b : Option Addr) (n m c d : Nat) : (#[.int .i64 x, .int .i64 y, .slice a n m, .slice b c d] : Array Value).all (·.oneCell') = true := by simp [Value.oneCell']
set_option maxRecDepth 100000 in
set_option maxHeartbeats 4000000 in
theorem turned_law (W H : Int) (aw ak : Option Addr) (cw ck : Nat) (wl kl : List Int) (across : Bool) (w : World) (hw : wl.length ≤ 5000 → Reads w (.slice aw wl.length cw) wl) (hk : kl.length ≤ 5000 → Reads w (.slice ak kl.length ck) kl) :
    Calls Tryz.prog 7 #[.agg #[.int .i64 W, .int .i64 H, .slice aw wl.length cw, .slice ak kl.length ck], .bool across] w fun e w' => e = .returned (.bool true) ∧ Ext w w' := by
  obtain ⟨b, hb⟩ : ∃ b, b = fineB W H wl kl := ⟨_, rfl⟩
  have HF := Lib.hid (fun (X : World) (h : Ext w X) => fine_c W H aw ak cw ck wl kl X (fun h5 => (hw h5).ext h) (fun h5 => (hk h5).ext h))
  rw [← hb] at HF
  obtain ⟨nw, hnw⟩ : ∃ n, n = wl.length := ⟨_, rfl⟩
  obtain ⟨nk, hnk⟩ : ∃ n, n = kl.length := ⟨_, rfl⟩
  rw [← hnw] at HF hw ⊢
  rw [← hnk] at HF hk ⊢
  obtain ⟨w1, hw1⟩ : ∃ w1, w1 = w.alloc (.cells #[.int .i64 W, .int .i64 H, .slice aw nw cw, .slice ak nk ck] 24) := ⟨_, rfl⟩
  have HE := Lib.hid (show Ext w w1 from by rw [hw1]; exact (Ext.refl w).alloc _)
  have B0 := Lib.hid (show w1.heap[w.heap.size]? = some (.cells #[.int .i64 W, .int .i64 H, .slice aw nw cw, .slice ak nk ck] 24 (0, 0)) from by rw [hw1]; exact heap_alloc_new w _)
  have HB := Lib.hid hb; have HNW := Lib.hid hnw; have HNK := Lib.hid hnk; have HHW := Lib.hid hw; have HHK := Lib.hid hk
  clear hb hnw hnk hw hk
  obtain ⟨z0, z1, z2, z3⟩ := cells4 B0.out
  go_enter Tryz.func7, Tryz.ntmps7
  go_upto_region 1 with fail
  rw [← hw1]
  clear hw1
  go_wp2_with fail
  refine (HF.out _ HE.out).mono ?_
  rintro e w2 ⟨rfl, h2⟩
  have HE := Lib.hid (HE.out.trans h2); have B0 := Lib.hid (block_ext h2 B0.out)
  clear h2 z0 z1 z2 z3
  cases b
  · skip
    go_wp2_with fail
    refine (works_c _).mono ?_
    rintro e wz ⟨rfl, hz⟩
    go_wp2
    go_ret
    exact ⟨rfl, HE.out.trans hz⟩
  · skip
    have hfb := HB.out.symm
    unfold fineB at hfb
    rw [Bool.and_eq_true, Bool.not_eq_true', Bool.or_eq_false_iff, decide_eq_false_iff_not, decide_eq_false_iff_not, decide_eq_true_iff] at hfb
    obtain ⟨⟨h7w, h7k⟩, h0⟩ := hfb
    obtain ⟨W, H, wn, kn, ⟨rfl, rfl⟩, ⟨rfl, rfl⟩, hv⟩ := chkP_ok.1 h0
    clear h0
    have hnw := HNW.out; have hnk := HNK.out
    have hw := HHW.out (by omega); have hk := HHK.out (by omega)
    clear HF HB HNW HNK HHW HHK hnw hnk h7w h7k
    have HV := Lib.hid hv; have HWR := Lib.hid hw; have HKR := Lib.hid hk
    clear hv hw hk
    cases across
    · skip
      obtain ⟨hv2, e1, e2, e3⟩ := turned_f HV.out
      have HTW := Lib.hid (fun (X : World) (h : Ext w X) => turned_r W H nw cw nk ck aw ak ⟨HV.out.w1, HV.out.w8⟩ ⟨HV.out.h1, HV.out.h8⟩ _ wn HV.out.want.lt (by have := HV.out.want.len; have := HV.out.n64; omega) false X (HWR.out.ext h))
      have HTK := Lib.hid (fun (X : World) (h : Ext w X) => turned_r W H nw cw nk ck aw ak ⟨HV.out.w1, HV.out.w8⟩ ⟨HV.out.h1, HV.out.h8⟩ _ kn HV.out.keep.lt (by have := HV.out.keep.len; have := HV.out.n64; omega) false X (HKR.out.ext h))
      have HTS := Lib.hid (fun (X : World) (v : Value) (hr : Reads X v (natI (smL HV.out))) => turned_r W H nw cw nk ck aw ak ⟨HV.out.w1, HV.out.w8⟩ ⟨HV.out.h1, HV.out.h8⟩ v _ (sm_lst HV.out).lt (by have := (sm_lst HV.out).len; have := HV.out.n64; omega) false X hr)
      have HTL := Lib.hid (fun (X : World) (v : Value) (hr : Reads X v (natI (lgL HV.out))) => turned_r W H nw cw nk ck aw ak ⟨HV.out.w1, HV.out.w8⟩ ⟨HV.out.h1, HV.out.h8⟩ v _ (lg_lst HV.out).lt (by have := (lg_lst HV.out).len; have := HV.out.n64; omega) false X hr)
      have HB1 := Lib.hid (fun (X : World) (h : Ext w X) => best_c W H nw cw nk ck aw ak wn kn HV.out X (HWR.out.ext h) (HKR.out.ext h))
      have HB2 := Lib.hid (fun (X : World) (a b : Option Addr) (m d n c : Nat) (h1 : Reads X (.slice a m d) (natI (turN (tF false W H) wn))) (h2 : Reads X (.slice b n c) (natI (turN (tF false W H) kn))) => best_c W H m d n c a b _ _ hv2 X h1 h2)
      rw [e1] at HB2
      rw [e2] at HTS
      rw [e3] at HTL
      generalize fewN HV.out = NN at *
      generalize smL HV.out = s0 at *
      generalize lgL HV.out = l0 at *
      generalize smL hv2 = s1 at *
      generalize lgL hv2 = l1 at *
      clear e1 e2 e3 hv2
      go_upto_region 3 with fail
      go_cut [5] from 18 (fun bx wx => ∃ (g : Nat) (ba : Option Addr) (ma da : Nat) (bb : Option Addr) (mb db : Nat), bx = .pointer (some ⟨g, 0, none⟩) ∧ Hid (wx.heap[g]? = some (.cells #[.int .i64 (W : Int), .int .i64 (H : Int), .slice ba ma da, .slice bb mb db] 24 (0, 0))) ∧ Hid (w2.heap.size ≤ g) ∧ Hid (Reads wx (.slice ba ma da) (natI (turN (tF false W H) wn))) ∧ Hid (Reads wx (.slice bb mb db) (natI (turN (tF false W H) kn))) ∧ Hid (∀ b, (Value.slice ba ma da).ownBlock = some b → natI (turN (tF false W H) wn) ≠ [] → b ≠ g) ∧ Hid (∀ b, (Value.slice bb mb db).ownBlock = some b → natI (turN (tF false W H) kn) ≠ [] → b ≠ g) ∧ Hid (Ext w2 wx))
      case first =>
        refine wp_region_tree (fun V : World => V.heap[w.heap.size]? = some (.cells #[.int .i64 (W : Int), .int .i64 (H : Int), .slice aw nw cw, .slice ak nk ck] 24 (0, 0))) (Tr.pres [0, 1, 2, 3, 4, 5, 6, 7, 9, 10, 11, 12] (.alt 8 (.alt 13 (.alt 14 (.lin [15, 16]) 15 (.lin [14, 16])) 15 (.lin [13, 14, 16])) 15 (.lin [8, 13, 14, 16]))) (by kernel_rfl) (by kernel_rfl) (by exact B0.out) (fun hHeld => ?_)
        obtain ⟨y0, hy0⟩ : ∃ V, V = w2.drew := ⟨_, rfl⟩
        have HC := Lib.hid (show Ext w2 y0 from by rw [hy0]; exact (Ext.refl _).drew)
        rw [← hy0] at hHeld ⊢
        clear hy0
        refine' tree_pres [0, 1, 2, 3, 4, 5, 6, 7, 9, 10, 11, 12] 12 (by kernel_rfl) (by kernel_rfl) (by decide) hHeld ?ck1 ?cr1
        case ck1 =>
          intro W_ hSw
          have hSW := hSw
          try dsimp only at hSW
          clear hSw
          obtain ⟨z0, z1, z2, z3⟩ := cells4 hSW
          simp only [opsIn, List.filterMap_cons, List.filterMap_nil, List.getElem?_toArray, List.getElem?_cons_succ, List.getElem?_cons_zero]
          simp only [List.take_succ_cons, List.take_zero]
          repeat (go_big_quiet_step (fail))
          exact wpQuiet_nil rfl
        refine tree_alt (by rfl) (by rfl) (by rfl) (by rfl) (fun K hK => ?_) (fun K hK => ?_)
        · skip
          simp only [List.getElem_toArray, List.getElem_cons_zero, List.getElem_cons_succ]
          go_simp
          refine (HTW.out _ (HE.out.trans HC.out)).mono ?_
          intro e y1 h1; obtain ⟨ba, ma, da, h1, hr1, hf1, h2⟩ := h1; subst h1
          all_goals (try (go_wp2_with fail))
          have HC := Lib.hid (HC.out.trans h2)
          have HA := Lib.hid hr1
          refine hK.out _ _ (by exact block_ext h2 hHeld) (fun hHeld => ?_)
          clear hK K h2 hr1 hf1
          try simp only [Act.put, List.setIfInBounds_toArray, List.set_cons_zero, List.set_cons_succ]
          refine tree_alt (by rfl) (by rfl) (by rfl) (by rfl) (fun K hK => ?_) (fun K hK => ?_)
          · skip
            simp only [List.getElem_toArray, List.getElem_cons_zero, List.getElem_cons_succ]
            go_simp
            refine (HTK.out _ (HE.out.trans HC.out)).mono ?_
            intro e y2 h1; obtain ⟨bb, mb, db, h1, hr1, hf1, h2⟩ := h1; subst h1
            all_goals (try (go_wp2_with fail))
            have HA := Lib.hid (HA.out.ext h2)
            have HC := Lib.hid (HC.out.trans h2)
            have HB := Lib.hid hr1
            refine hK.out _ _ (by exact block_ext h2 hHeld) (fun hHeld => ?_)
            clear hK K h2 hr1 hf1
            try simp only [Act.put, List.setIfInBounds_toArray, List.set_cons_zero, List.set_cons_succ]
            refine tree_alt (by rfl) (by rfl) (by rfl) (by rfl) (fun K hK => ?_) (fun K hK => ?_)
            · skip
              simp only [List.getElem_toArray, List.getElem_cons_zero, List.getElem_cons_succ]
              go_simp
              refine (pond_c (W : Int) (H : Int) ma da mb db ba bb _).mono ?_
              intro e y3 h1; obtain ⟨h1, h2⟩ := h1; subst h1
              all_goals (try (go_wp2_with fail))
              have HA := Lib.hid (HA.out.ext h2)
              have HB := Lib.hid (HB.out.ext h2)
              have HC := Lib.hid (HC.out.trans h2)
              refine hK.out _ _ (by exact block_ext h2 hHeld) (fun hHeld => ?_)
              clear hK K h2
              try simp only [Act.put, List.setIfInBounds_toArray, List.set_cons_zero, List.set_cons_succ]
              refine tree_lin ?_
              simp only [opsIn, List.filterMap_cons, List.filterMap_nil, List.getElem?_toArray, List.getElem?_cons_succ, List.getElem?_cons_zero]
              refine text_call (by rfl) (by rfl) (fun K hK => ?_)
              go_simp
              refine hK.out _ _ (by exact block_ext ((Ext.refl _).alloc _) hHeld) (fun hHeld => ?_)
              clear hK K
              try simp only [Act.put, List.setIfInBounds_toArray, List.set_cons_zero, List.set_cons_succ]
              obtain ⟨y4, hV⟩ : ∃ V, V = y3.alloc (.cells #[.int .i64 0, .int .i64 0, .slice none 0 0, .slice none 0 0] 24) := ⟨_, rfl⟩
              rw [← hV] at hHeld ⊢
              have HG := Lib.hid (show y4.heap[y3.heap.size]? = some (.cells #[.int .i64 0, .int .i64 0, .slice none 0 0, .slice none 0 0] 24 (0, 0)) from by rw [hV]; exact heap_alloc_new _ _)
              have HGS := Lib.hid (show w2.heap.size ≤ y3.heap.size from HC.out.size)
              have h2 : Ext y3 y4 := by rw [hV]; exact (Ext.refl _).alloc _
              have HNA := Lib.hid (show ∀ b, (Value.slice ba ma da).ownBlock = some b → natI (turN (tF false W H) wn) ≠ [] → b ≠ y3.heap.size from fun b h hne => by have := reads_lt HA.out b h hne; omega)
              have HNB := Lib.hid (show ∀ b, (Value.slice bb mb db).ownBlock = some b → natI (turN (tF false W H) kn) ≠ [] → b ≠ y3.heap.size from fun b h hne => by have := reads_lt HB.out b h hne; omega)
              have HA := Lib.hid (HA.out.ext h2)
              have HB := Lib.hid (HB.out.ext h2)
              have HC := Lib.hid (HC.out.trans h2)
              clear hV h2
              obtain ⟨g, hg⟩ : ∃ g, g = y3.heap.size := ⟨_, rfl⟩
              rw [← hg] at HG HGS ⊢
              rw [← hg] at HNA
              rw [← hg] at HNB
              have HGL := Lib.hid (show g < y4.heap.size from lt_of_blk HG.out)
              clear hg
              refine text_call (by rfl) (by rfl) (fun K hK => ?_)
              refine wp_store_row 24 _ _ rfl g #[.int .i64 (W : Int), .int .i64 (H : Int), .slice ba ma da, .slice bb mb db] rfl rfl 24 #[.int .i64 0, .int .i64 0, .slice none 0 0, .slice none 0 0] HG.out INF4 rfl (ONE4 _ _ _ _ _ _ _ _) ?_
              have hs9 := setRow_heap' _ _ #[.int .i64 (W : Int), .int .i64 (H : Int), .slice ba ma da, .slice bb mb db] _ _ HG.out
              have he9 := setRow_ext HC.out HGS.out #[.int .i64 (W : Int), .int .i64 (H : Int), .slice ba ma da, .slice bb mb db]
              have ha9 := reads_set HA.out g HNA.out (fun k _ hne => setRow_other (Ne.symm hne) #[.int .i64 (W : Int), .int .i64 (H : Int), .slice ba ma da, .slice bb mb db])
              have hb9 := reads_set HB.out g HNB.out (fun k _ hne => setRow_other (Ne.symm hne) #[.int .i64 (W : Int), .int .i64 (H : Int), .slice ba ma da, .slice bb mb db])
              refine hK.out _ _ (by exact block_ext he9 B0.out) (fun hHeld => ?_)
              clear hK K
              try simp only [Act.put, List.setIfInBounds_toArray, List.set_cons_zero, List.set_cons_succ]
              refine text_done ?_
              go_wp2_with fail
              go_meet
              exact ⟨_, _, _, _, _, _, _, rfl, Lib.hid hs9, HGS, Lib.hid ha9, Lib.hid hb9, HNA, HNB, Lib.hid he9⟩
            · skip
              simp only [List.getElem_toArray, List.getElem_cons_zero, List.getElem_cons_succ]
              go_simp
              refine hK.out _ _ (by exact block_ext ((Ext.refl _).alloc _) hHeld) (fun hHeld => ?_)
              clear hK K
              try simp only [Act.put, List.setIfInBounds_toArray, List.set_cons_zero, List.set_cons_succ]
              obtain ⟨y5, hV⟩ : ∃ V, V = y2.alloc (.cells #[.int .i64 0, .int .i64 0, .slice none 0 0, .slice none 0 0] 24) := ⟨_, rfl⟩
              rw [← hV] at hHeld ⊢
              have HG := Lib.hid (show y5.heap[y2.heap.size]? = some (.cells #[.int .i64 0, .int .i64 0, .slice none 0 0, .slice none 0 0] 24 (0, 0)) from by rw [hV]; exact heap_alloc_new _ _)
              have HGS := Lib.hid (show w2.heap.size ≤ y2.heap.size from HC.out.size)
              have h2 : Ext y2 y5 := by rw [hV]; exact (Ext.refl _).alloc _
              have HNA := Lib.hid (show ∀ b, (Value.slice ba ma da).ownBlock = some b → natI (turN (tF false W H) wn) ≠ [] → b ≠ y2.heap.size from fun b h hne => by have := reads_lt HA.out b h hne; omega)
              have HNB := Lib.hid (show ∀ b, (Value.slice bb mb db).ownBlock = some b → natI (turN (tF false W H) kn) ≠ [] → b ≠ y2.heap.size from fun b h hne => by have := reads_lt HB.out b h hne; omega)
              have HA := Lib.hid (HA.out.ext h2)
              have HB := Lib.hid (HB.out.ext h2)
              have HC := Lib.hid (HC.out.trans h2)
              clear hV h2
              obtain ⟨g, hg⟩ : ∃ g, g = y2.heap.size := ⟨_, rfl⟩
              rw [← hg] at HG HGS ⊢
              rw [← hg] at HNA
              rw [← hg] at HNB
              have HGL := Lib.hid (show g < y5.heap.size from lt_of_blk HG.out)
              clear hg
              refine tree_lin ?_
              simp only [opsIn, List.filterMap_cons, List.filterMap_nil, List.getElem?_toArray, List.getElem?_cons_succ, List.getElem?_cons_zero]
              refine text_call (by rfl) (by rfl) (fun K hK => ?_)
              go_simp
              refine (pond_c (W : Int) (H : Int) ma da mb db ba bb _).mono ?_
              intro e y6 h1; obtain ⟨h1, h2⟩ := h1; subst h1
              all_goals (try (go_wp2_with fail))
              have HA := Lib.hid (HA.out.ext h2)
              have HB := Lib.hid (HB.out.ext h2)
              have HG := Lib.hid (block_ext h2 HG.out)
              have HC := Lib.hid (HC.out.trans h2)
              have HGL := Lib.hid (show g < y6.heap.size from lt_of_blk HG.out)
              refine hK.out _ _ (by exact block_ext h2 hHeld) (fun hHeld => ?_)
              clear hK K h2
              try simp only [Act.put, List.setIfInBounds_toArray, List.set_cons_zero, List.set_cons_succ]
              refine text_call (by rfl) (by rfl) (fun K hK => ?_)
              refine wp_store_row 24 _ _ rfl g #[.int .i64 (W : Int), .int .i64 (H : Int), .slice ba ma da, .slice bb mb db] rfl rfl 24 #[.int .i64 0, .int .i64 0, .slice none 0 0, .slice none 0 0] HG.out INF4 rfl (ONE4 _ _ _ _ _ _ _ _) ?_
              have hs9 := setRow_heap' _ _ #[.int .i64 (W : Int), .int .i64 (H : Int), .slice ba ma da, .slice bb mb db] _ _ HG.out
              have he9 := setRow_ext HC.out HGS.out #[.int .i64 (W : Int), .int .i64 (H : Int), .slice ba ma da, .slice bb mb db]
              have ha9 := reads_set HA.out g HNA.out (fun k _ hne => setRow_other (Ne.symm hne) #[.int .i64 (W : Int), .int .i64 (H : Int), .slice ba ma da, .slice bb mb db])
              have hb9 := reads_set HB.out g HNB.out (fun k _ hne => setRow_other (Ne.symm hne) #[.int .i64 (W : Int), .int .i64 (H : Int), .slice ba ma da, .slice bb mb db])
              refine hK.out _ _ (by exact block_ext he9 B0.out) (fun hHeld => ?_)
              clear hK K
              try simp only [Act.put, List.setIfInBounds_toArray, List.set_cons_zero, List.set_cons_succ]
              refine text_done ?_
              go_wp2_with fail
              go_meet
              exact ⟨_, _, _, _, _, _, _, rfl, Lib.hid hs9, HGS, Lib.hid ha9, Lib.hid hb9, HNA, HNB, Lib.hid he9⟩
          · skip
            simp only [List.getElem_toArray, List.getElem_cons_zero, List.getElem_cons_succ]
            go_simp
            refine hK.out _ _ (by exact block_ext ((Ext.refl _).alloc _) hHeld) (fun hHeld => ?_)
            clear hK K
            try simp only [Act.put, List.setIfInBounds_toArray, List.set_cons_zero, List.set_cons_succ]
            obtain ⟨y7, hV⟩ : ∃ V, V = y1.alloc (.cells #[.int .i64 0, .int .i64 0, .slice none 0 0, .slice none 0 0] 24) := ⟨_, rfl⟩
            rw [← hV] at hHeld ⊢
            have HG := Lib.hid (show y7.heap[y1.heap.size]? = some (.cells #[.int .i64 0, .int .i64 0, .slice none 0 0, .slice none 0 0] 24 (0, 0)) from by rw [hV]; exact heap_alloc_new _ _)
            have HGS := Lib.hid (show w2.heap.size ≤ y1.heap.size from HC.out.size)
            have h2 : Ext y1 y7 := by rw [hV]; exact (Ext.refl _).alloc _
            have HNA := Lib.hid (show ∀ b, (Value.slice ba ma da).ownBlock = some b → natI (turN (tF false W H) wn) ≠ [] → b ≠ y1.heap.size from fun b h hne => by have := reads_lt HA.out b h hne; omega)
            have HA := Lib.hid (HA.out.ext h2)
            have HC := Lib.hid (HC.out.trans h2)
            clear hV h2
            obtain ⟨g, hg⟩ : ∃ g, g = y1.heap.size := ⟨_, rfl⟩
            rw [← hg] at HG HGS ⊢
            rw [← hg] at HNA
            have HGL := Lib.hid (show g < y7.heap.size from lt_of_blk HG.out)
            clear hg
            refine tree_lin ?_
            simp only [opsIn, List.filterMap_cons, List.filterMap_nil, List.getElem?_toArray, List.getElem?_cons_succ, List.getElem?_cons_zero]
            refine text_call (by rfl) (by rfl) (fun K hK => ?_)
            go_simp
            refine (HTK.out _ (HE.out.trans HC.out)).mono ?_
            intro e y8 h1; obtain ⟨bb, mb, db, h1, hr1, hf1, h2⟩ := h1; subst h1
            all_goals (try (go_wp2_with fail))
            have HA := Lib.hid (HA.out.ext h2)
            have HG := Lib.hid (block_ext h2 HG.out)
            have HC := Lib.hid (HC.out.trans h2)
            have HB := Lib.hid hr1
            have HNB := Lib.hid (show ∀ b, (Value.slice bb mb db).ownBlock = some b → natI (turN (tF false W H) kn) ≠ [] → b ≠ g from fun b h _ => by have := hf1 b h; have := HGL.out; omega)
            have HGL := Lib.hid (show g < y8.heap.size from lt_of_blk HG.out)
            refine hK.out _ _ (by exact block_ext h2 hHeld) (fun hHeld => ?_)
            clear hK K h2 hr1 hf1
            try simp only [Act.put, List.setIfInBounds_toArray, List.set_cons_zero, List.set_cons_succ]
            refine text_call (by rfl) (by rfl) (fun K hK => ?_)
            go_simp
            refine (pond_c (W : Int) (H : Int) ma da mb db ba bb _).mono ?_
            intro e y9 h1; obtain ⟨h1, h2⟩ := h1; subst h1
            all_goals (try (go_wp2_with fail))
            have HA := Lib.hid (HA.out.ext h2)
            have HG := Lib.hid (block_ext h2 HG.out)
            have HB := Lib.hid (HB.out.ext h2)
            have HC := Lib.hid (HC.out.trans h2)
            have HGL := Lib.hid (show g < y9.heap.size from lt_of_blk HG.out)
            refine hK.out _ _ (by exact block_ext h2 hHeld) (fun hHeld => ?_)
            clear hK K h2
            try simp only [Act.put, List.setIfInBounds_toArray, List.set_cons_zero, List.set_cons_succ]
            refine text_call (by rfl) (by rfl) (fun K hK => ?_)
            refine wp_store_row 24 _ _ rfl g #[.int .i64 (W : Int), .int .i64 (H : Int), .slice ba ma da, .slice bb mb db] rfl rfl 24 #[.int .i64 0, .int .i64 0, .slice none 0 0, .slice none 0 0] HG.out INF4 rfl (ONE4 _ _ _ _ _ _ _ _) ?_
            have hs9 := setRow_heap' _ _ #[.int .i64 (W : Int), .int .i64 (H : Int), .slice ba ma da, .slice bb mb db] _ _ HG.out
            have he9 := setRow_ext HC.out HGS.out #[.int .i64 (W : Int), .int .i64 (H : Int), .slice ba ma da, .slice bb mb db]
            have ha9 := reads_set HA.out g HNA.out (fun k _ hne => setRow_other (Ne.symm hne) #[.int .i64 (W : Int), .int .i64 (H : Int), .slice ba ma da, .slice bb mb db])
            have hb9 := reads_set HB.out g HNB.out (fun k _ hne => setRow_other (Ne.symm hne) #[.int .i64 (W : Int), .int .i64 (H : Int), .slice ba ma da, .slice bb mb db])
            refine hK.out _ _ (by exact block_ext he9 B0.out) (fun hHeld => ?_)
            clear hK K
            try simp only [Act.put, List.setIfInBounds_toArray, List.set_cons_zero, List.set_cons_succ]
            refine text_done ?_
            go_wp2_with fail
            go_meet
            exact ⟨_, _, _, _, _, _, _, rfl, Lib.hid hs9, HGS, Lib.hid ha9, Lib.hid hb9, HNA, HNB, Lib.hid he9⟩
        · skip
          simp only [List.getElem_toArray, List.getElem_cons_zero, List.getElem_cons_succ]
          go_simp
          refine hK.out _ _ (by exact block_ext ((Ext.refl _).alloc _) hHeld) (fun hHeld => ?_)
          clear hK K
          try simp only [Act.put, List.setIfInBounds_toArray, List.set_cons_zero, List.set_cons_succ]
          obtain ⟨y10, hV⟩ : ∃ V, V = y0.alloc (.cells #[.int .i64 0, .int .i64 0, .slice none 0 0, .slice none 0 0] 24) := ⟨_, rfl⟩
          rw [← hV] at hHeld ⊢
          have HG := Lib.hid (show y10.heap[y0.heap.size]? = some (.cells #[.int .i64 0, .int .i64 0, .slice none 0 0, .slice none 0 0] 24 (0, 0)) from by rw [hV]; exact heap_alloc_new _ _)
          have HGS := Lib.hid (show w2.heap.size ≤ y0.heap.size from HC.out.size)
          have h2 : Ext y0 y10 := by rw [hV]; exact (Ext.refl _).alloc _
          have HC := Lib.hid (HC.out.trans h2)
          clear hV h2
          obtain ⟨g, hg⟩ : ∃ g, g = y0.heap.size := ⟨_, rfl⟩
          rw [← hg] at HG HGS ⊢
          have HGL := Lib.hid (show g < y10.heap.size from lt_of_blk HG.out)
          clear hg
          refine tree_lin ?_
          simp only [opsIn, List.filterMap_cons, List.filterMap_nil, List.getElem?_toArray, List.getElem?_cons_succ, List.getElem?_cons_zero]
          refine text_call (by rfl) (by rfl) (fun K hK => ?_)
          go_simp
          refine (HTW.out _ (HE.out.trans HC.out)).mono ?_
          intro e y11 h1; obtain ⟨ba, ma, da, h1, hr1, hf1, h2⟩ := h1; subst h1
          all_goals (try (go_wp2_with fail))
          have HG := Lib.hid (block_ext h2 HG.out)
          have HC := Lib.hid (HC.out.trans h2)
          have HA := Lib.hid hr1
          have HNA := Lib.hid (show ∀ b, (Value.slice ba ma da).ownBlock = some b → natI (turN (tF false W H) wn) ≠ [] → b ≠ g from fun b h _ => by have := hf1 b h; have := HGL.out; omega)
          have HGL := Lib.hid (show g < y11.heap.size from lt_of_blk HG.out)
          refine hK.out _ _ (by exact block_ext h2 hHeld) (fun hHeld => ?_)
          clear hK K h2 hr1 hf1
          try simp only [Act.put, List.setIfInBounds_toArray, List.set_cons_zero, List.set_cons_succ]
          refine text_call (by rfl) (by rfl) (fun K hK => ?_)
          go_simp
          refine (HTK.out _ (HE.out.trans HC.out)).mono ?_
          intro e y12 h1; obtain ⟨bb, mb, db, h1, hr1, hf1, h2⟩ := h1; subst h1
          all_goals (try (go_wp2_with fail))
          have HG := Lib.hid (block_ext h2 HG.out)
          have HA := Lib.hid (HA.out.ext h2)
          have HC := Lib.hid (HC.out.trans h2)
          have HB := Lib.hid hr1
          have HNB := Lib.hid (show ∀ b, (Value.slice bb mb db).ownBlock = some b → natI (turN (tF false W H) kn) ≠ [] → b ≠ g from fun b h _ => by have := hf1 b h; have := HGL.out; omega)
          have HGL := Lib.hid (show g < y12.heap.size from lt_of_blk HG.out)
          refine hK.out _ _ (by exact block_ext h2 hHeld) (fun hHeld => ?_)
          clear hK K h2 hr1 hf1
          try simp only [Act.put, List.setIfInBounds_toArray, List.set_cons_zero, List.set_cons_succ]
          refine text_call (by rfl) (by rfl) (fun K hK => ?_)
          go_simp
          refine (pond_c (W : Int) (H : Int) ma da mb db ba bb _).mono ?_
          intro e y13 h1; obtain ⟨h1, h2⟩ := h1; subst h1
          all_goals (try (go_wp2_with fail))
          have HG := Lib.hid (block_ext h2 HG.out)
          have HA := Lib.hid (HA.out.ext h2)
          have HB := Lib.hid (HB.out.ext h2)
          have HC := Lib.hid (HC.out.trans h2)
          have HGL := Lib.hid (show g < y13.heap.size from lt_of_blk HG.out)
          refine hK.out _ _ (by exact block_ext h2 hHeld) (fun hHeld => ?_)
          clear hK K h2
          try simp only [Act.put, List.setIfInBounds_toArray, List.set_cons_zero, List.set_cons_succ]
          refine text_call (by rfl) (by rfl) (fun K hK => ?_)
          refine wp_store_row 24 _ _ rfl g #[.int .i64 (W : Int), .int .i64 (H : Int), .slice ba ma da, .slice bb mb db] rfl rfl 24 #[.int .i64 0, .int .i64 0, .slice none 0 0, .slice none 0 0] HG.out INF4 rfl (ONE4 _ _ _ _ _ _ _ _) ?_
          have hs9 := setRow_heap' _ _ #[.int .i64 (W : Int), .int .i64 (H : Int), .slice ba ma da, .slice bb mb db] _ _ HG.out
          have he9 := setRow_ext HC.out HGS.out #[.int .i64 (W : Int), .int .i64 (H : Int), .slice ba ma da, .slice bb mb db]
          have ha9 := reads_set HA.out g HNA.out (fun k _ hne => setRow_other (Ne.symm hne) #[.int .i64 (W : Int), .int .i64 (H : Int), .slice ba ma da, .slice bb mb db])
          have hb9 := reads_set HB.out g HNB.out (fun k _ hne => setRow_other (Ne.symm hne) #[.int .i64 (W : Int), .int .i64 (H : Int), .slice ba ma da, .slice bb mb db])
          refine hK.out _ _ (by exact block_ext he9 B0.out) (fun hHeld => ?_)
          clear hK K
          try simp only [Act.put, List.setIfInBounds_toArray, List.set_cons_zero, List.set_cons_succ]
          refine text_done ?_
          go_wp2_with fail
          go_meet
          exact ⟨_, _, _, _, _, _, _, rfl, Lib.hid hs9, HGS, Lib.hid ha9, Lib.hid hb9, HNA, HNB, Lib.hid he9⟩
      case rest =>
        obtain ⟨g, ba, ma, da, bb, mb, db, rfl, hg, hgs, ha, hb, HNA, HNB, h2⟩ := hcut
        obtain ⟨w3, hw3⟩ : ∃ Y, Y = wc := ⟨_, rfl⟩
        rw [← hw3] at hg ha hb h2 ⊢
        have BQ := Lib.hid hg.out; have HA := Lib.hid ha.out; have HB := Lib.hid hb.out
        have HGW := Lib.hid (show w.heap.size < g from by have := hgs.out; have := lt_of_blk B0.out; omega)
        have HE := Lib.hid (HE.out.trans h2.out); have B0 := Lib.hid (block_ext h2.out B0.out)
        have HGN := Lib.hid (show w2.heap.size ≤ g from hgs.out)
        clear hg hgs ha hb h2 hw3
        obtain ⟨z0, z1, z2, z3⟩ := cells4 B0.out
        go_wp2_with fail
        refine (HB1.out _ HE.out).mono ?_
        rintro e w4 ⟨p0, p1, p2, q0, q1, q2, rfl, hr1, hr2, h2⟩
        have HE := Lib.hid (HE.out.trans h2); have B0 := Lib.hid (block_ext h2 B0.out)
        have HA := Lib.hid (HA.out.ext h2)
        have HB := Lib.hid (HB.out.ext h2)
        have R1 := Lib.hid hr1; have R2 := Lib.hid hr2
        clear hr1 hr2
        have BQ := Lib.hid (block_ext h2 BQ.out)
        clear h2 z0 z1 z2 z3
        obtain ⟨y0, y1, y2, y3⟩ := cells4 BQ.out
        go_wp2_with fail
        refine (HB2.out _ _ _ _ _ _ _ HA.out HB.out).mono ?_
        rintro e w5 ⟨r0, r1, r2, t0, t1, t2, rfl, hr1, hr2, h2⟩
        have HE := Lib.hid (HE.out.trans h2); have B0 := Lib.hid (block_ext h2 B0.out)
        have HA := Lib.hid (HA.out.ext h2)
        have HB := Lib.hid (HB.out.ext h2)
        have R1 := Lib.hid (R1.out.ext h2)
        have R2 := Lib.hid (R2.out.ext h2)
        have R3 := Lib.hid hr1; have R4 := Lib.hid hr2
        clear hr1 hr2
        clear h2 y0 y1 y2 y3
        obtain ⟨z0, z1, z2, z3⟩ := cells4 B0.out
        go_wp2_with fail
        refine (HTS.out _ _ R1.out).mono ?_
        rintro e w6 ⟨i0, i1, i2, rfl, hr1, -, h2⟩
        have HE := Lib.hid (HE.out.trans h2); have B0 := Lib.hid (block_ext h2 B0.out)
        have R1 := Lib.hid (R1.out.ext h2)
        have R2 := Lib.hid (R2.out.ext h2)
        have R3 := Lib.hid (R3.out.ext h2)
        have R4 := Lib.hid (R4.out.ext h2)
        have RS := Lib.hid hr1
        clear hr1
        clear h2 z0 z1 z2 z3
        go_wp2_with fail
        refine (wkI _ _ _ _ RS.out R3.out).mono ?_
        rintro e w7 ⟨rfl, h2⟩
        have HE := Lib.hid (HE.out.trans h2); have B0 := Lib.hid (block_ext h2 B0.out)
        have R1 := Lib.hid (R1.out.ext h2)
        have R2 := Lib.hid (R2.out.ext h2)
        have R3 := Lib.hid (R3.out.ext h2)
        have R4 := Lib.hid (R4.out.ext h2)
        have RS := Lib.hid (RS.out.ext h2)
        clear h2 
        obtain ⟨z0, z1, z2, z3⟩ := cells4 B0.out
        go_wp2_with fail
        refine (HTL.out _ _ R2.out).mono ?_
        rintro e w8 ⟨j0, j1, j2, rfl, hr1, -, h2⟩
        have HE := Lib.hid (HE.out.trans h2); have B0 := Lib.hid (block_ext h2 B0.out)
        have R1 := Lib.hid (R1.out.ext h2)
        have R2 := Lib.hid (R2.out.ext h2)
        have R3 := Lib.hid (R3.out.ext h2)
        have R4 := Lib.hid (R4.out.ext h2)
        have RS2 := Lib.hid hr1
        clear hr1
        clear h2 z0 z1 z2 z3
        go_wp2_with fail
        refine (wkI _ _ _ _ RS2.out R4.out).mono ?_
        rintro e w9 ⟨rfl, h2⟩
        have HE := Lib.hid (HE.out.trans h2); have B0 := Lib.hid (block_ext h2 B0.out)
        have R1 := Lib.hid (R1.out.ext h2)
        have R2 := Lib.hid (R2.out.ext h2)
        have R3 := Lib.hid (R3.out.ext h2)
        have R4 := Lib.hid (R4.out.ext h2)
        have RS2 := Lib.hid (RS2.out.ext h2)
        clear h2 
        go_wp2_with fail
        refine (works_c _).mono ?_
        rintro e wz ⟨rfl, hz⟩
        go_wp2
        go_ret
        exact ⟨rfl, HE.out.trans hz⟩
    · skip
      obtain ⟨hv2, e1, e2, e3⟩ := turned_t HV.out
      have HTW := Lib.hid (fun (X : World) (h : Ext w X) => turned_r W H nw cw nk ck aw ak ⟨HV.out.w1, HV.out.w8⟩ ⟨HV.out.h1, HV.out.h8⟩ _ wn HV.out.want.lt (by have := HV.out.want.len; have := HV.out.n64; omega) true X (HWR.out.ext h))
      have HTK := Lib.hid (fun (X : World) (h : Ext w X) => turned_r W H nw cw nk ck aw ak ⟨HV.out.w1, HV.out.w8⟩ ⟨HV.out.h1, HV.out.h8⟩ _ kn HV.out.keep.lt (by have := HV.out.keep.len; have := HV.out.n64; omega) true X (HKR.out.ext h))
      have HTS := Lib.hid (fun (X : World) (v : Value) (hr : Reads X v (natI (smL HV.out))) => turned_r W H nw cw nk ck aw ak ⟨HV.out.w1, HV.out.w8⟩ ⟨HV.out.h1, HV.out.h8⟩ v _ (sm_lst HV.out).lt (by have := (sm_lst HV.out).len; have := HV.out.n64; omega) true X hr)
      have HTL := Lib.hid (fun (X : World) (v : Value) (hr : Reads X v (natI (lgL HV.out))) => turned_r W H nw cw nk ck aw ak ⟨HV.out.w1, HV.out.w8⟩ ⟨HV.out.h1, HV.out.h8⟩ v _ (lg_lst HV.out).lt (by have := (lg_lst HV.out).len; have := HV.out.n64; omega) true X hr)
      have HB1 := Lib.hid (fun (X : World) (h : Ext w X) => best_c W H nw cw nk ck aw ak wn kn HV.out X (HWR.out.ext h) (HKR.out.ext h))
      have HB2 := Lib.hid (fun (X : World) (a b : Option Addr) (m d n c : Nat) (h1 : Reads X (.slice a m d) (natI (turN (tF true W H) wn))) (h2 : Reads X (.slice b n c) (natI (turN (tF true W H) kn))) => best_c H W m d n c a b _ _ hv2 X h1 h2)
      rw [e1] at HB2
      rw [e2] at HTS
      rw [e3] at HTL
      generalize fewN HV.out = NN at *
      generalize smL HV.out = s0 at *
      generalize lgL HV.out = l0 at *
      generalize smL hv2 = s1 at *
      generalize lgL hv2 = l1 at *
      clear e1 e2 e3 hv2
      go_upto_region 3 with fail
      go_cut [5] from 18 (fun bx wx => ∃ (g : Nat) (ba : Option Addr) (ma da : Nat) (bb : Option Addr) (mb db : Nat), bx = .pointer (some ⟨g, 0, none⟩) ∧ Hid (wx.heap[g]? = some (.cells #[.int .i64 (W : Int), .int .i64 (H : Int), .slice ba ma da, .slice bb mb db] 24 (0, 0))) ∧ Hid (w2.heap.size ≤ g) ∧ Hid (Reads wx (.slice ba ma da) (natI (turN (tF true W H) wn))) ∧ Hid (Reads wx (.slice bb mb db) (natI (turN (tF true W H) kn))) ∧ Hid (∀ b, (Value.slice ba ma da).ownBlock = some b → natI (turN (tF true W H) wn) ≠ [] → b ≠ g) ∧ Hid (∀ b, (Value.slice bb mb db).ownBlock = some b → natI (turN (tF true W H) kn) ≠ [] → b ≠ g) ∧ Hid (Ext w2 wx))
      case first =>
        refine wp_region_tree (fun V : World => V.heap[w.heap.size]? = some (.cells #[.int .i64 (W : Int), .int .i64 (H : Int), .slice aw nw cw, .slice ak nk ck] 24 (0, 0))) (Tr.pres [0, 1, 2, 3, 4, 5, 6, 7, 9, 10, 11, 12] (.alt 8 (.alt 13 (.alt 14 (.lin [15, 16]) 15 (.lin [14, 16])) 15 (.lin [13, 14, 16])) 15 (.lin [8, 13, 14, 16]))) (by kernel_rfl) (by kernel_rfl) (by exact B0.out) (fun hHeld => ?_)
        obtain ⟨y0, hy0⟩ : ∃ V, V = w2.drew := ⟨_, rfl⟩
        have HC := Lib.hid (show Ext w2 y0 from by rw [hy0]; exact (Ext.refl _).drew)
        rw [← hy0] at hHeld ⊢
        clear hy0
        refine' tree_pres [0, 1, 2, 3, 4, 5, 6, 7, 9, 10, 11, 12] 12 (by kernel_rfl) (by kernel_rfl) (by decide) hHeld ?ck2 ?cr2
        case ck2 =>
          intro W_ hSw
          have hSW := hSw
          try dsimp only at hSW
          clear hSw
          obtain ⟨z0, z1, z2, z3⟩ := cells4 hSW
          simp only [opsIn, List.filterMap_cons, List.filterMap_nil, List.getElem?_toArray, List.getElem?_cons_succ, List.getElem?_cons_zero]
          simp only [List.take_succ_cons, List.take_zero]
          repeat (go_big_quiet_step (fail))
          exact wpQuiet_nil rfl
        refine tree_alt (by rfl) (by rfl) (by rfl) (by rfl) (fun K hK => ?_) (fun K hK => ?_)
        · skip
          simp only [List.getElem_toArray, List.getElem_cons_zero, List.getElem_cons_succ]
          go_simp
          refine (HTW.out _ (HE.out.trans HC.out)).mono ?_
          intro e y14 h1; obtain ⟨ba, ma, da, h1, hr1, hf1, h2⟩ := h1; subst h1
          all_goals (try (go_wp2_with fail))
          have HC := Lib.hid (HC.out.trans h2)
          have HA := Lib.hid hr1
          refine hK.out _ _ (by exact block_ext h2 hHeld) (fun hHeld => ?_)
          clear hK K h2 hr1 hf1
          try simp only [Act.put, List.setIfInBounds_toArray, List.set_cons_zero, List.set_cons_succ]
          refine tree_alt (by rfl) (by rfl) (by rfl) (by rfl) (fun K hK => ?_) (fun K hK => ?_)
          · skip
            simp only [List.getElem_toArray, List.getElem_cons_zero, List.getElem_cons_succ]
            go_simp
            refine (HTK.out _ (HE.out.trans HC.out)).mono ?_
            intro e y15 h1; obtain ⟨bb, mb, db, h1, hr1, hf1, h2⟩ := h1; subst h1
            all_goals (try (go_wp2_with fail))
            have HA := Lib.hid (HA.out.ext h2)
            have HC := Lib.hid (HC.out.trans h2)
            have HB := Lib.hid hr1
            refine hK.out _ _ (by exact block_ext h2 hHeld) (fun hHeld => ?_)
            clear hK K h2 hr1 hf1
            try simp only [Act.put, List.setIfInBounds_toArray, List.set_cons_zero, List.set_cons_succ]
            refine tree_alt (by rfl) (by rfl) (by rfl) (by rfl) (fun K hK => ?_) (fun K hK => ?_)
            · skip
              simp only [List.getElem_toArray, List.getElem_cons_zero, List.getElem_cons_succ]
              go_simp
              refine (pond_c (W : Int) (H : Int) ma da mb db ba bb _).mono ?_
              intro e y16 h1; obtain ⟨h1, h2⟩ := h1; subst h1
              all_goals (try (go_wp2_with fail))
              have HA := Lib.hid (HA.out.ext h2)
              have HB := Lib.hid (HB.out.ext h2)
              have HC := Lib.hid (HC.out.trans h2)
              refine hK.out _ _ (by exact block_ext h2 hHeld) (fun hHeld => ?_)
              clear hK K h2
              try simp only [Act.put, List.setIfInBounds_toArray, List.set_cons_zero, List.set_cons_succ]
              refine tree_lin ?_
              simp only [opsIn, List.filterMap_cons, List.filterMap_nil, List.getElem?_toArray, List.getElem?_cons_succ, List.getElem?_cons_zero]
              refine text_call (by rfl) (by rfl) (fun K hK => ?_)
              go_simp
              refine hK.out _ _ (by exact block_ext ((Ext.refl _).alloc _) hHeld) (fun hHeld => ?_)
              clear hK K
              try simp only [Act.put, List.setIfInBounds_toArray, List.set_cons_zero, List.set_cons_succ]
              obtain ⟨y17, hV⟩ : ∃ V, V = y16.alloc (.cells #[.int .i64 0, .int .i64 0, .slice none 0 0, .slice none 0 0] 24) := ⟨_, rfl⟩
              rw [← hV] at hHeld ⊢
              have HG := Lib.hid (show y17.heap[y16.heap.size]? = some (.cells #[.int .i64 0, .int .i64 0, .slice none 0 0, .slice none 0 0] 24 (0, 0)) from by rw [hV]; exact heap_alloc_new _ _)
              have HGS := Lib.hid (show w2.heap.size ≤ y16.heap.size from HC.out.size)
              have h2 : Ext y16 y17 := by rw [hV]; exact (Ext.refl _).alloc _
              have HNA := Lib.hid (show ∀ b, (Value.slice ba ma da).ownBlock = some b → natI (turN (tF true W H) wn) ≠ [] → b ≠ y16.heap.size from fun b h hne => by have := reads_lt HA.out b h hne; omega)
              have HNB := Lib.hid (show ∀ b, (Value.slice bb mb db).ownBlock = some b → natI (turN (tF true W H) kn) ≠ [] → b ≠ y16.heap.size from fun b h hne => by have := reads_lt HB.out b h hne; omega)
              have HA := Lib.hid (HA.out.ext h2)
              have HB := Lib.hid (HB.out.ext h2)
              have HC := Lib.hid (HC.out.trans h2)
              clear hV h2
              obtain ⟨g, hg⟩ : ∃ g, g = y16.heap.size := ⟨_, rfl⟩
              rw [← hg] at HG HGS ⊢
              rw [← hg] at HNA
              rw [← hg] at HNB
              have HGL := Lib.hid (show g < y17.heap.size from lt_of_blk HG.out)
              clear hg
              refine text_call (by rfl) (by rfl) (fun K hK => ?_)
              refine wp_store_row 24 _ _ rfl g #[.int .i64 (W : Int), .int .i64 (H : Int), .slice ba ma da, .slice bb mb db] rfl rfl 24 #[.int .i64 0, .int .i64 0, .slice none 0 0, .slice none 0 0] HG.out INF4 rfl (ONE4 _ _ _ _ _ _ _ _) ?_
              have hs9 := setRow_heap' _ _ #[.int .i64 (W : Int), .int .i64 (H : Int), .slice ba ma da, .slice bb mb db] _ _ HG.out
              have he9 := setRow_ext HC.out HGS.out #[.int .i64 (W : Int), .int .i64 (H : Int), .slice ba ma da, .slice bb mb db]
              have ha9 := reads_set HA.out g HNA.out (fun k _ hne => setRow_other (Ne.symm hne) #[.int .i64 (W : Int), .int .i64 (H : Int), .slice ba ma da, .slice bb mb db])
              have hb9 := reads_set HB.out g HNB.out (fun k _ hne => setRow_other (Ne.symm hne) #[.int .i64 (W : Int), .int .i64 (H : Int), .slice ba ma da, .slice bb mb db])
              refine hK.out _ _ (by exact block_ext he9 B0.out) (fun hHeld => ?_)
              clear hK K
              try simp only [Act.put, List.setIfInBounds_toArray, List.set_cons_zero, List.set_cons_succ]
              refine text_done ?_
              go_wp2_with fail
              go_meet
              exact ⟨_, _, _, _, _, _, _, rfl, Lib.hid hs9, HGS, Lib.hid ha9, Lib.hid hb9, HNA, HNB, Lib.hid he9⟩
            · skip
              simp only [List.getElem_toArray, List.getElem_cons_zero, List.getElem_cons_succ]
              go_simp
              refine hK.out _ _ (by exact block_ext ((Ext.refl _).alloc _) hHeld) (fun hHeld => ?_)
              clear hK K
              try simp only [Act.put, List.setIfInBounds_toArray, List.set_cons_zero, List.set_cons_succ]
              obtain ⟨y18, hV⟩ : ∃ V, V = y15.alloc (.cells #[.int .i64 0, .int .i64 0, .slice none 0 0, .slice none 0 0] 24) := ⟨_, rfl⟩
              rw [← hV] at hHeld ⊢
              have HG := Lib.hid (show y18.heap[y15.heap.size]? = some (.cells #[.int .i64 0, .int .i64 0, .slice none 0 0, .slice none 0 0] 24 (0, 0)) from by rw [hV]; exact heap_alloc_new _ _)
              have HGS := Lib.hid (show w2.heap.size ≤ y15.heap.size from HC.out.size)
              have h2 : Ext y15 y18 := by rw [hV]; exact (Ext.refl _).alloc _
              have HNA := Lib.hid (show ∀ b, (Value.slice ba ma da).ownBlock = some b → natI (turN (tF true W H) wn) ≠ [] → b ≠ y15.heap.size from fun b h hne => by have := reads_lt HA.out b h hne; omega)
              have HNB := Lib.hid (show ∀ b, (Value.slice bb mb db).ownBlock = some b → natI (turN (tF true W H) kn) ≠ [] → b ≠ y15.heap.size from fun b h hne => by have := reads_lt HB.out b h hne; omega)
              have HA := Lib.hid (HA.out.ext h2)
              have HB := Lib.hid (HB.out.ext h2)
              have HC := Lib.hid (HC.out.trans h2)
              clear hV h2
              obtain ⟨g, hg⟩ : ∃ g, g = y15.heap.size := ⟨_, rfl⟩
              rw [← hg] at HG HGS ⊢
              rw [← hg] at HNA
              rw [← hg] at HNB
              have HGL := Lib.hid (show g < y18.heap.size from lt_of_blk HG.out)
              clear hg
              refine tree_lin ?_
              simp only [opsIn, List.filterMap_cons, List.filterMap_nil, List.getElem?_toArray, List.getElem?_cons_succ, List.getElem?_cons_zero]
              refine text_call (by rfl) (by rfl) (fun K hK => ?_)
              go_simp
              refine (pond_c (W : Int) (H : Int) ma da mb db ba bb _).mono ?_
              intro e y19 h1; obtain ⟨h1, h2⟩ := h1; subst h1
              all_goals (try (go_wp2_with fail))
              have HA := Lib.hid (HA.out.ext h2)
              have HB := Lib.hid (HB.out.ext h2)
              have HG := Lib.hid (block_ext h2 HG.out)
              have HC := Lib.hid (HC.out.trans h2)
              have HGL := Lib.hid (show g < y19.heap.size from lt_of_blk HG.out)
              refine hK.out _ _ (by exact block_ext h2 hHeld) (fun hHeld => ?_)
              clear hK K h2
              try simp only [Act.put, List.setIfInBounds_toArray, List.set_cons_zero, List.set_cons_succ]
              refine text_call (by rfl) (by rfl) (fun K hK => ?_)
              refine wp_store_row 24 _ _ rfl g #[.int .i64 (W : Int), .int .i64 (H : Int), .slice ba ma da, .slice bb mb db] rfl rfl 24 #[.int .i64 0, .int .i64 0, .slice none 0 0, .slice none 0 0] HG.out INF4 rfl (ONE4 _ _ _ _ _ _ _ _) ?_
              have hs9 := setRow_heap' _ _ #[.int .i64 (W : Int), .int .i64 (H : Int), .slice ba ma da, .slice bb mb db] _ _ HG.out
              have he9 := setRow_ext HC.out HGS.out #[.int .i64 (W : Int), .int .i64 (H : Int), .slice ba ma da, .slice bb mb db]
              have ha9 := reads_set HA.out g HNA.out (fun k _ hne => setRow_other (Ne.symm hne) #[.int .i64 (W : Int), .int .i64 (H : Int), .slice ba ma da, .slice bb mb db])
              have hb9 := reads_set HB.out g HNB.out (fun k _ hne => setRow_other (Ne.symm hne) #[.int .i64 (W : Int), .int .i64 (H : Int), .slice ba ma da, .slice bb mb db])
              refine hK.out _ _ (by exact block_ext he9 B0.out) (fun hHeld => ?_)
              clear hK K
              try simp only [Act.put, List.setIfInBounds_toArray, List.set_cons_zero, List.set_cons_succ]
              refine text_done ?_
              go_wp2_with fail
              go_meet
              exact ⟨_, _, _, _, _, _, _, rfl, Lib.hid hs9, HGS, Lib.hid ha9, Lib.hid hb9, HNA, HNB, Lib.hid he9⟩
          · skip
            simp only [List.getElem_toArray, List.getElem_cons_zero, List.getElem_cons_succ]
            go_simp
            refine hK.out _ _ (by exact block_ext ((Ext.refl _).alloc _) hHeld) (fun hHeld => ?_)
            clear hK K
            try simp only [Act.put, List.setIfInBounds_toArray, List.set_cons_zero, List.set_cons_succ]
            obtain ⟨y20, hV⟩ : ∃ V, V = y14.alloc (.cells #[.int .i64 0, .int .i64 0, .slice none 0 0, .slice none 0 0] 24) := ⟨_, rfl⟩
            rw [← hV] at hHeld ⊢
            have HG := Lib.hid (show y20.heap[y14.heap.size]? = some (.cells #[.int .i64 0, .int .i64 0, .slice none 0 0, .slice none 0 0] 24 (0, 0)) from by rw [hV]; exact heap_alloc_new _ _)
            have HGS := Lib.hid (show w2.heap.size ≤ y14.heap.size from HC.out.size)
            have h2 : Ext y14 y20 := by rw [hV]; exact (Ext.refl _).alloc _
            have HNA := Lib.hid (show ∀ b, (Value.slice ba ma da).ownBlock = some b → natI (turN (tF true W H) wn) ≠ [] → b ≠ y14.heap.size from fun b h hne => by have := reads_lt HA.out b h hne; omega)
            have HA := Lib.hid (HA.out.ext h2)
            have HC := Lib.hid (HC.out.trans h2)
            clear hV h2
            obtain ⟨g, hg⟩ : ∃ g, g = y14.heap.size := ⟨_, rfl⟩
            rw [← hg] at HG HGS ⊢
            rw [← hg] at HNA
            have HGL := Lib.hid (show g < y20.heap.size from lt_of_blk HG.out)
            clear hg
            refine tree_lin ?_
            simp only [opsIn, List.filterMap_cons, List.filterMap_nil, List.getElem?_toArray, List.getElem?_cons_succ, List.getElem?_cons_zero]
            refine text_call (by rfl) (by rfl) (fun K hK => ?_)
            go_simp
            refine (HTK.out _ (HE.out.trans HC.out)).mono ?_
            intro e y21 h1; obtain ⟨bb, mb, db, h1, hr1, hf1, h2⟩ := h1; subst h1
            all_goals (try (go_wp2_with fail))
            have HA := Lib.hid (HA.out.ext h2)
            have HG := Lib.hid (block_ext h2 HG.out)
            have HC := Lib.hid (HC.out.trans h2)
            have HB := Lib.hid hr1
            have HNB := Lib.hid (show ∀ b, (Value.slice bb mb db).ownBlock = some b → natI (turN (tF true W H) kn) ≠ [] → b ≠ g from fun b h _ => by have := hf1 b h; have := HGL.out; omega)
            have HGL := Lib.hid (show g < y21.heap.size from lt_of_blk HG.out)
            refine hK.out _ _ (by exact block_ext h2 hHeld) (fun hHeld => ?_)
            clear hK K h2 hr1 hf1
            try simp only [Act.put, List.setIfInBounds_toArray, List.set_cons_zero, List.set_cons_succ]
            refine text_call (by rfl) (by rfl) (fun K hK => ?_)
            go_simp
            refine (pond_c (W : Int) (H : Int) ma da mb db ba bb _).mono ?_
            intro e y22 h1; obtain ⟨h1, h2⟩ := h1; subst h1
            all_goals (try (go_wp2_with fail))
            have HA := Lib.hid (HA.out.ext h2)
            have HG := Lib.hid (block_ext h2 HG.out)
            have HB := Lib.hid (HB.out.ext h2)
            have HC := Lib.hid (HC.out.trans h2)
            have HGL := Lib.hid (show g < y22.heap.size from lt_of_blk HG.out)
            refine hK.out _ _ (by exact block_ext h2 hHeld) (fun hHeld => ?_)
            clear hK K h2
            try simp only [Act.put, List.setIfInBounds_toArray, List.set_cons_zero, List.set_cons_succ]
            refine text_call (by rfl) (by rfl) (fun K hK => ?_)
            refine wp_store_row 24 _ _ rfl g #[.int .i64 (W : Int), .int .i64 (H : Int), .slice ba ma da, .slice bb mb db] rfl rfl 24 #[.int .i64 0, .int .i64 0, .slice none 0 0, .slice none 0 0] HG.out INF4 rfl (ONE4 _ _ _ _ _ _ _ _) ?_
            have hs9 := setRow_heap' _ _ #[.int .i64 (W : Int), .int .i64 (H : Int), .slice ba ma da, .slice bb mb db] _ _ HG.out
            have he9 := setRow_ext HC.out HGS.out #[.int .i64 (W : Int), .int .i64 (H : Int), .slice ba ma da, .slice bb mb db]
            have ha9 := reads_set HA.out g HNA.out (fun k _ hne => setRow_other (Ne.symm hne) #[.int .i64 (W : Int), .int .i64 (H : Int), .slice ba ma da, .slice bb mb db])
            have hb9 := reads_set HB.out g HNB.out (fun k _ hne => setRow_other (Ne.symm hne) #[.int .i64 (W : Int), .int .i64 (H : Int), .slice ba ma da, .slice bb mb db])
            refine hK.out _ _ (by exact block_ext he9 B0.out) (fun hHeld => ?_)
            clear hK K
            try simp only [Act.put, List.setIfInBounds_toArray, List.set_cons_zero, List.set_cons_succ]
            refine text_done ?_
            go_wp2_with fail
            go_meet
            exact ⟨_, _, _, _, _, _, _, rfl, Lib.hid hs9, HGS, Lib.hid ha9, Lib.hid hb9, HNA, HNB, Lib.hid he9⟩
        · skip
          simp only [List.getElem_toArray, List.getElem_cons_zero, List.getElem_cons_succ]
          go_simp
          refine hK.out _ _ (by exact block_ext ((Ext.refl _).alloc _) hHeld) (fun hHeld => ?_)
          clear hK K
          try simp only [Act.put, List.setIfInBounds_toArray, List.set_cons_zero, List.set_cons_succ]
          obtain ⟨y23, hV⟩ : ∃ V, V = y0.alloc (.cells #[.int .i64 0, .int .i64 0, .slice none 0 0, .slice none 0 0] 24) := ⟨_, rfl⟩
          rw [← hV] at hHeld ⊢
          have HG := Lib.hid (show y23.heap[y0.heap.size]? = some (.cells #[.int .i64 0, .int .i64 0, .slice none 0 0, .slice none 0 0] 24 (0, 0)) from by rw [hV]; exact heap_alloc_new _ _)
          have HGS := Lib.hid (show w2.heap.size ≤ y0.heap.size from HC.out.size)
          have h2 : Ext y0 y23 := by rw [hV]; exact (Ext.refl _).alloc _
          have HC := Lib.hid (HC.out.trans h2)
          clear hV h2
          obtain ⟨g, hg⟩ : ∃ g, g = y0.heap.size := ⟨_, rfl⟩
          rw [← hg] at HG HGS ⊢
          have HGL := Lib.hid (show g < y23.heap.size from lt_of_blk HG.out)
          clear hg
          refine tree_lin ?_
          simp only [opsIn, List.filterMap_cons, List.filterMap_nil, List.getElem?_toArray, List.getElem?_cons_succ, List.getElem?_cons_zero]
          refine text_call (by rfl) (by rfl) (fun K hK => ?_)
          go_simp
          refine (HTW.out _ (HE.out.trans HC.out)).mono ?_
          intro e y24 h1; obtain ⟨ba, ma, da, h1, hr1, hf1, h2⟩ := h1; subst h1
          all_goals (try (go_wp2_with fail))
          have HG := Lib.hid (block_ext h2 HG.out)
          have HC := Lib.hid (HC.out.trans h2)
          have HA := Lib.hid hr1
          have HNA := Lib.hid (show ∀ b, (Value.slice ba ma da).ownBlock = some b → natI (turN (tF true W H) wn) ≠ [] → b ≠ g from fun b h _ => by have := hf1 b h; have := HGL.out; omega)
          have HGL := Lib.hid (show g < y24.heap.size from lt_of_blk HG.out)
          refine hK.out _ _ (by exact block_ext h2 hHeld) (fun hHeld => ?_)
          clear hK K h2 hr1 hf1
          try simp only [Act.put, List.setIfInBounds_toArray, List.set_cons_zero, List.set_cons_succ]
          refine text_call (by rfl) (by rfl) (fun K hK => ?_)
          go_simp
          refine (HTK.out _ (HE.out.trans HC.out)).mono ?_
          intro e y25 h1; obtain ⟨bb, mb, db, h1, hr1, hf1, h2⟩ := h1; subst h1
          all_goals (try (go_wp2_with fail))
          have HG := Lib.hid (block_ext h2 HG.out)
          have HA := Lib.hid (HA.out.ext h2)
          have HC := Lib.hid (HC.out.trans h2)
          have HB := Lib.hid hr1
          have HNB := Lib.hid (show ∀ b, (Value.slice bb mb db).ownBlock = some b → natI (turN (tF true W H) kn) ≠ [] → b ≠ g from fun b h _ => by have := hf1 b h; have := HGL.out; omega)
          have HGL := Lib.hid (show g < y25.heap.size from lt_of_blk HG.out)
          refine hK.out _ _ (by exact block_ext h2 hHeld) (fun hHeld => ?_)
          clear hK K h2 hr1 hf1
          try simp only [Act.put, List.setIfInBounds_toArray, List.set_cons_zero, List.set_cons_succ]
          refine text_call (by rfl) (by rfl) (fun K hK => ?_)
          go_simp
          refine (pond_c (W : Int) (H : Int) ma da mb db ba bb _).mono ?_
          intro e y26 h1; obtain ⟨h1, h2⟩ := h1; subst h1
          all_goals (try (go_wp2_with fail))
          have HG := Lib.hid (block_ext h2 HG.out)
          have HA := Lib.hid (HA.out.ext h2)
          have HB := Lib.hid (HB.out.ext h2)
          have HC := Lib.hid (HC.out.trans h2)
          have HGL := Lib.hid (show g < y26.heap.size from lt_of_blk HG.out)
          refine hK.out _ _ (by exact block_ext h2 hHeld) (fun hHeld => ?_)
          clear hK K h2
          try simp only [Act.put, List.setIfInBounds_toArray, List.set_cons_zero, List.set_cons_succ]
          refine text_call (by rfl) (by rfl) (fun K hK => ?_)
          refine wp_store_row 24 _ _ rfl g #[.int .i64 (W : Int), .int .i64 (H : Int), .slice ba ma da, .slice bb mb db] rfl rfl 24 #[.int .i64 0, .int .i64 0, .slice none 0 0, .slice none 0 0] HG.out INF4 rfl (ONE4 _ _ _ _ _ _ _ _) ?_
          have hs9 := setRow_heap' _ _ #[.int .i64 (W : Int), .int .i64 (H : Int), .slice ba ma da, .slice bb mb db] _ _ HG.out
          have he9 := setRow_ext HC.out HGS.out #[.int .i64 (W : Int), .int .i64 (H : Int), .slice ba ma da, .slice bb mb db]
          have ha9 := reads_set HA.out g HNA.out (fun k _ hne => setRow_other (Ne.symm hne) #[.int .i64 (W : Int), .int .i64 (H : Int), .slice ba ma da, .slice bb mb db])
          have hb9 := reads_set HB.out g HNB.out (fun k _ hne => setRow_other (Ne.symm hne) #[.int .i64 (W : Int), .int .i64 (H : Int), .slice ba ma da, .slice bb mb db])
          refine hK.out _ _ (by exact block_ext he9 B0.out) (fun hHeld => ?_)
          clear hK K
          try simp only [Act.put, List.setIfInBounds_toArray, List.set_cons_zero, List.set_cons_succ]
          refine text_done ?_
          go_wp2_with fail
          go_meet
          exact ⟨_, _, _, _, _, _, _, rfl, Lib.hid hs9, HGS, Lib.hid ha9, Lib.hid hb9, HNA, HNB, Lib.hid he9⟩
      case rest =>
        obtain ⟨g, ba, ma, da, bb, mb, db, rfl, hg, hgs, ha, hb, HNA, HNB, h2⟩ := hcut
        obtain ⟨w3, hw3⟩ : ∃ Y, Y = wc := ⟨_, rfl⟩
        rw [← hw3] at hg ha hb h2 ⊢
        have BQ := Lib.hid hg.out; have HA := Lib.hid ha.out; have HB := Lib.hid hb.out
        have HGW := Lib.hid (show w.heap.size < g from by have := hgs.out; have := lt_of_blk B0.out; omega)
        have HE := Lib.hid (HE.out.trans h2.out); have B0 := Lib.hid (block_ext h2.out B0.out)
        have HGN := Lib.hid (show w2.heap.size ≤ g from hgs.out)
        clear hg hgs ha hb h2 hw3
        go_upto_region 5 with fail
        refine wp_region_order ((fun V : World => V.heap[w.heap.size]? = some (.cells #[.int .i64 (W : Int), .int .i64 (H : Int), .slice aw nw cw, .slice ak nk ck] 24 (0, 0)))) [0, 1, 2, 3, 4, 5, 6, 7] (by kernel_rfl) (by kernel_rfl) (by exact B0.out) (fun hHeld => ?_)
        simp only [opsIn, List.filterMap_cons, List.filterMap_nil, List.getElem?_toArray, List.getElem?_cons_succ, List.getElem?_cons_zero]
        obtain ⟨d5, hd5⟩ : ∃ Y, Y = w3.drew := ⟨_, rfl⟩
        have h2 : Ext w3 d5 := by rw [hd5]; exact (Ext.refl _).drew
        have HE := Lib.hid (HE.out.trans h2); have BQ := Lib.hid (block_ext h2 BQ.out); have HA := Lib.hid (HA.out.ext h2); have HB := Lib.hid (HB.out.ext h2)
        rw [← hd5] at hHeld ⊢
        clear hd5 h2
        refine' text_chunk 5 (by kernel_rfl) hHeld ?ck3 ?cr3
        case ck3 =>
          intro W hSw
          have hSW := hSw
          try dsimp only at hSW
          clear hSw
          obtain ⟨z0, z1, z2, z3⟩ := cells4 hSW
          simp only [List.take_succ_cons, List.take_zero, List.drop_succ_cons, List.drop_zero]
          repeat (go_big_quiet_step (fail))
          exact wpQuiet_nil rfl
        simp only [List.take_succ_cons, List.take_zero, List.drop_succ_cons, List.drop_zero]
        have y0 := cell_of_blk (o := 0) BQ.out rfl
        have f0 := frozen_of_blk BQ.out 0
        refine text_call (by rfl) (by rfl) (fun K hK => ?_)
        go_simp
        have hgx : d5.grownBy (d5.setCell ⟨g, 0, none⟩ (.int .i64 (H : Int))) (some g) := grown_set _ _ _ _
        have hb9 := (other_blk hgx (by have := HGW.out; omega) (lt_of_blk hHeld)).trans hHeld
        have BQ' := Lib.hid (show (d5.setCell ⟨g, 0, none⟩ (.int .i64 (H : Int))).heap[g]? = some (.cells #[.int .i64 (H : Int), .int .i64 (H : Int), .slice ba ma da, .slice bb mb db] 24 (0, 0)) from by
          have h0 : d5.heap[g]? = some (.cells ([.int .i64 (W : Int), .int .i64 (H : Int), .slice ba ma da, .slice bb mb db] : List Value).toArray 24 (0, 0)) := BQ.out
          have := set_blk (o := 0) h0 (.int .i64 (H : Int))
          simpa using this)
        have HA' := Lib.hid (reads_set HA.out g HNA.out (X := (d5.setCell ⟨g, 0, none⟩ (.int .i64 (H : Int)))) (fun k h1 hne => hgx.block k h1 (fun e => hne (Option.some.inj e))))
        have HB' := Lib.hid (reads_set HB.out g HNB.out (X := (d5.setCell ⟨g, 0, none⟩ (.int .i64 (H : Int)))) (fun k h1 hne => hgx.block k h1 (fun e => hne (Option.some.inj e))))
        have HE' := Lib.hid (show Ext w (d5.setCell ⟨g, 0, none⟩ (.int .i64 (H : Int))) from HE.out.set (by have := HGW.out; omega) _ _)
        refine hK.out _ _ (by exact hb9) (fun hHeld => ?_)
        clear hK K y0 f0 hgx hb9 BQ HA HB HE
        have BQ := BQ'; have HA := HA'; have HB := HB'; have HE := HE'
        clear BQ' HA' HB' HE'
        obtain ⟨x1, hx⟩ : ∃ Y, Y = (d5.setCell ⟨g, 0, none⟩ (.int .i64 (H : Int))) := ⟨_, rfl⟩
        rw [← hx] at hHeld BQ HA HB HE ⊢
        clear hx
        try simp only [Act.put, List.setIfInBounds_toArray, List.set_cons_zero, List.set_cons_succ]
        refine' text_chunk 1 (by kernel_rfl) hHeld ?ck4 ?cr4
        case ck4 =>
          intro W hSw
          have hSW := hSw
          try dsimp only at hSW
          clear hSw
          obtain ⟨z0, z1, z2, z3⟩ := cells4 hSW
          simp only [List.take_succ_cons, List.take_zero, List.drop_succ_cons, List.drop_zero]
          repeat (go_big_quiet_step (fail))
          exact wpQuiet_nil rfl
        simp only [List.take_succ_cons, List.take_zero, List.drop_succ_cons, List.drop_zero]
        have y0 := cell_of_blk (o := 1) BQ.out rfl
        have f0 := frozen_of_blk BQ.out 1
        refine text_call (by rfl) (by rfl) (fun K hK => ?_)
        go_simp
        have hgx : x1.grownBy (x1.setCell ⟨g, 1, none⟩ (.int .i64 (W : Int))) (some g) := grown_set _ _ _ _
        have hb9 := (other_blk hgx (by have := HGW.out; omega) (lt_of_blk hHeld)).trans hHeld
        have BQ' := Lib.hid (show (x1.setCell ⟨g, 1, none⟩ (.int .i64 (W : Int))).heap[g]? = some (.cells #[.int .i64 (H : Int), .int .i64 (W : Int), .slice ba ma da, .slice bb mb db] 24 (0, 0)) from by
          have h0 : x1.heap[g]? = some (.cells ([.int .i64 (H : Int), .int .i64 (H : Int), .slice ba ma da, .slice bb mb db] : List Value).toArray 24 (0, 0)) := BQ.out
          have := set_blk (o := 1) h0 (.int .i64 (W : Int))
          simpa using this)
        have HA' := Lib.hid (reads_set HA.out g HNA.out (X := (x1.setCell ⟨g, 1, none⟩ (.int .i64 (W : Int)))) (fun k h1 hne => hgx.block k h1 (fun e => hne (Option.some.inj e))))
        have HB' := Lib.hid (reads_set HB.out g HNB.out (X := (x1.setCell ⟨g, 1, none⟩ (.int .i64 (W : Int)))) (fun k h1 hne => hgx.block k h1 (fun e => hne (Option.some.inj e))))
        have HE' := Lib.hid (show Ext w (x1.setCell ⟨g, 1, none⟩ (.int .i64 (W : Int))) from HE.out.set (by have := HGW.out; omega) _ _)
        refine hK.out _ _ (by exact hb9) (fun hHeld => ?_)
        clear hK K y0 f0 hgx hb9 BQ HA HB HE
        have BQ := BQ'; have HA := HA'; have HB := HB'; have HE := HE'
        clear BQ' HA' HB' HE'
        obtain ⟨x2, hx⟩ : ∃ Y, Y = (x1.setCell ⟨g, 1, none⟩ (.int .i64 (W : Int))) := ⟨_, rfl⟩
        rw [← hx] at hHeld BQ HA HB HE ⊢
        clear hx
        try simp only [Act.put, List.setIfInBounds_toArray, List.set_cons_zero, List.set_cons_succ]
        refine text_done ?_
        have B0 := Lib.hid hHeld
        clear hHeld
        obtain ⟨z0, z1, z2, z3⟩ := cells4 B0.out
        go_wp2_with fail
        refine (HB1.out _ HE.out).mono ?_
        rintro e w4 ⟨p0, p1, p2, q0, q1, q2, rfl, hr1, hr2, h2⟩
        have HE := Lib.hid (HE.out.trans h2); have B0 := Lib.hid (block_ext h2 B0.out)
        have HA := Lib.hid (HA.out.ext h2)
        have HB := Lib.hid (HB.out.ext h2)
        have R1 := Lib.hid hr1; have R2 := Lib.hid hr2
        clear hr1 hr2
        have BQ := Lib.hid (block_ext h2 BQ.out)
        clear h2 z0 z1 z2 z3
        obtain ⟨y0, y1, y2, y3⟩ := cells4 BQ.out
        go_wp2_with fail
        refine (HB2.out _ _ _ _ _ _ _ HA.out HB.out).mono ?_
        rintro e w5 ⟨r0, r1, r2, t0, t1, t2, rfl, hr1, hr2, h2⟩
        have HE := Lib.hid (HE.out.trans h2); have B0 := Lib.hid (block_ext h2 B0.out)
        have HA := Lib.hid (HA.out.ext h2)
        have HB := Lib.hid (HB.out.ext h2)
        have R1 := Lib.hid (R1.out.ext h2)
        have R2 := Lib.hid (R2.out.ext h2)
        have R3 := Lib.hid hr1; have R4 := Lib.hid hr2
        clear hr1 hr2
        clear h2 y0 y1 y2 y3
        obtain ⟨z0, z1, z2, z3⟩ := cells4 B0.out
        go_wp2_with fail
        refine (HTS.out _ _ R1.out).mono ?_
        rintro e w6 ⟨i0, i1, i2, rfl, hr1, -, h2⟩
        have HE := Lib.hid (HE.out.trans h2); have B0 := Lib.hid (block_ext h2 B0.out)
        have R1 := Lib.hid (R1.out.ext h2)
        have R2 := Lib.hid (R2.out.ext h2)
        have R3 := Lib.hid (R3.out.ext h2)
        have R4 := Lib.hid (R4.out.ext h2)
        have RS := Lib.hid hr1
        clear hr1
        clear h2 z0 z1 z2 z3
        go_wp2_with fail
        refine (wkI _ _ _ _ RS.out R3.out).mono ?_
        rintro e w7 ⟨rfl, h2⟩
        have HE := Lib.hid (HE.out.trans h2); have B0 := Lib.hid (block_ext h2 B0.out)
        have R1 := Lib.hid (R1.out.ext h2)
        have R2 := Lib.hid (R2.out.ext h2)
        have R3 := Lib.hid (R3.out.ext h2)
        have R4 := Lib.hid (R4.out.ext h2)
        have RS := Lib.hid (RS.out.ext h2)
        clear h2 
        obtain ⟨z0, z1, z2, z3⟩ := cells4 B0.out
        go_wp2_with fail
        refine (HTL.out _ _ R2.out).mono ?_
        rintro e w8 ⟨j0, j1, j2, rfl, hr1, -, h2⟩
        have HE := Lib.hid (HE.out.trans h2); have B0 := Lib.hid (block_ext h2 B0.out)
        have R1 := Lib.hid (R1.out.ext h2)
        have R2 := Lib.hid (R2.out.ext h2)
        have R3 := Lib.hid (R3.out.ext h2)
        have R4 := Lib.hid (R4.out.ext h2)
        have RS2 := Lib.hid hr1
        clear hr1
        clear h2 z0 z1 z2 z3
        go_wp2_with fail
        refine (wkI _ _ _ _ RS2.out R4.out).mono ?_
        rintro e w9 ⟨rfl, h2⟩
        have HE := Lib.hid (HE.out.trans h2); have B0 := Lib.hid (block_ext h2 B0.out)
        have R1 := Lib.hid (R1.out.ext h2)
        have R2 := Lib.hid (R2.out.ext h2)
        have R3 := Lib.hid (R3.out.ext h2)
        have R4 := Lib.hid (R4.out.ext h2)
        have RS2 := Lib.hid (RS2.out.ext h2)
        clear h2 
        go_wp2_with fail
        refine (works_c _).mono ?_
        rintro e wz ⟨rfl, hz⟩
        go_wp2
        go_ret
        exact ⟨rfl, HE.out.trans hz⟩
end Go.Proofs.YtppjnpempgpkaaaGreat
