/- around, by its contract. -/
import Derived.Test.YtppjnpempgpkaaaRC
import Derived.Test.YtppjnpempgpkaaaSO
import Derived.Test.YtppjnpempgpkaaaZT
import Derived.Test.YtppjnpempgpkaaaCR
import Derived.Test.YtppjnpempgpkaaaH7
import Derived.Test.YtppjnpempgpkaaaH6
import Derived.Test.YtppjnpempgpkaaaN3
import Derived.Test.YtppjnpempgpkaaaK1
namespace Go.Proofs.Ytppjnpempgpkaaa
open Go.RowKit Go.Shelf
set_option linter.unusedVariables false
set_option linter.unusedSimpArgs false
attribute [local go_sem] Oper.semAt_some

theorem set3c {X : World} {b : Nat} {a0 a1 a2 : Value} {t : TypeId} (h : X.heap[b]? = some (.cells #[a0, a1, a2] t (0, 0))) (v : Value) : (X.setCell ⟨b, 2, none⟩ v).heap[b]? = some (.cells #[a0, a1, v] t (0, 0)) := by
  have h0 : X.heap[b]? = some (.cells [a0, a1, a2].toArray t (0, 0)) := h
  have := set_blk (o := 2) h0 v
  simpa using this
theorem INF3 {a b c : Value} : (Try.prog.info? 40).map (·.size) = some (#[a, b, c] : Array Value).size := by
  show _ = some 3
  kernel_rfl
theorem ONE3 (x y : Int) (s : ByteArray) : (#[.int .i64 x, .int .i64 y, .string s] : Array Value).all (·.oneCell') = true := by simp [Value.oneCell']
theorem opp_step (l : List UInt8) {k : Nat} {b : UInt8} (h : l[k]? = some b) : ByteArray.mk #[oppU b] ++ ByteArray.mk (((l.take k).map oppU).reverse.toArray) = ByteArray.mk (((l.take (k + 1)).map oppU).reverse.toArray) := by
  have := ByteArray.mk_append_mk [oppU b] ((l.take k).map oppU).reverse
  rw [take_snoc h, List.map_append, List.reverse_append]
  exact this
theorem opp_letter (b : UInt8) : ((b.toNat : Int) = 78 → oppU b = 83) ∧ ((b.toNat : Int) = 87 → oppU b = 69) ∧ ((b.toNat : Int) = 83 → oppU b = 78) ∧ (¬ (b.toNat : Int) = 78 → ¬ (b.toNat : Int) = 87 → ¬ (b.toNat : Int) = 83 → oppU b = 87) := by
  have h : ∀ n : Nat, n < 256 → ((b.toNat : Int) = (n : Int) ↔ b = UInt8.ofNat n) := fun n hn => by
    constructor
    · intro e
      have e2 : b.toNat = n := by omega
      rw [← e2, UInt8.ofNat_toNat]
    · intro e
      subst e
      rw [UInt8.toNat_ofNat']
      omega
  have h1 := h 78 (by decide); have h2 := h 87 (by decide); have h3 := h 83 (by decide)
  have e1 : UInt8.ofNat 78 = 78 := rfl; have e2 : UInt8.ofNat 87 = 87 := rfl; have e3 : UInt8.ofNat 83 = 83 := rfl
  rw [e1] at h1; rw [e2] at h2; rw [e3] at h3
  refine ⟨fun q => ?_, fun q => ?_, fun q => ?_, fun a b c => ?_⟩
  · rw [h1.1 q]; rfl
  · rw [h2.1 q]; rfl
  · rw [h3.1 q]; rfl
  · unfold oppU
    rw [if_neg (fun q => a (h1.2 q)), if_neg (fun q => b (h2.2 q)), if_neg (fun q => c (h3.2 q))]
set_option maxRecDepth 100000 in
set_option maxHeartbeats 4000000 in
theorem around_c (X Y : Int) (s : ByteArray) (fr : Nat) (back : Bool) (w : World) (hs : s.size ≤ 200) (hf : fr < s.size) (x y : Int) (hp : (ptsW (X, Y) (dirs s))[fr]? = some (x, y)) :
    Calls Try.prog 37 #[.agg #[.int .i64 X, .int .i64 Y, .string s], .int .i64 (fr : Int), .bool back] w fun e w' => e = .returned (.agg #[.int .i64 x, .int .i64 y, .string (arS back fr s)]) ∧ Ext w w' := by
  have HCO := Lib.hid (fun V => rcorners_c X Y s V hs)
  have hlen : (ptsW (X, Y) (dirs s)).length = s.size + 1 := by rw [ptsW_len, dirs_len]
  have HPT := Lib.hid hp
  clear hp
  obtain ⟨rs, hrs⟩ : ∃ rs, rs = s.extract fr s.size ++ s.extract 0 fr := ⟨_, rfl⟩
  have hrsz : rs.size = s.size := by rw [hrs, ByteArray.size_append, ByteArray.size_extract, ByteArray.size_extract]; omega
  have hcat : ∀ V : World, (Op.stringOp .add (s.extract fr s.size) (s.extract 0 fr)).run Try.prog V = .ok (.string rs) V := fun V => by
    rw [run_string_add_sum V _ _ (by rw [ByteArray.size_extract, ByteArray.size_extract]; omega), hrs]
  have HAR := Lib.hid (show arS back fr s = if back then backS rs else rs from by rw [hrs]; rfl)
  generalize arS back fr s = ar at *
  have HRZ := Lib.hid hrsz
  clear hrs hrsz
  generalize hx1 : s.extract fr s.size = sx1 at hcat
  generalize hx2 : s.extract 0 fr = sx2 at hcat
  obtain ⟨w1, hw1⟩ : ∃ w1, w1 = (w.alloc (.cells #[.int .i64 X, .int .i64 Y, .string s] 40)).alloc (.cells #[.int .i64 0, .int .i64 0, .string ⟨#[]⟩] 40) := ⟨_, rfl⟩
  have HE := Lib.hid (show Ext w w1 from by rw [hw1]; exact ((Ext.refl w).alloc _).alloc _)
  have HZ := Lib.hid (show w1.heap.size = w.heap.size + 2 from by rw [hw1]; simp)
  have B0 := Lib.hid (show w1.heap[w.heap.size]? = some (.cells #[.int .i64 X, .int .i64 Y, .string s] 40 (0, 0)) from by rw [hw1]; exact block_ext ((Ext.refl _).alloc _) (heap_alloc_new w _))
  have B1 := Lib.hid (show w1.heap[w.heap.size + 1]? = some (.cells #[.int .i64 0, .int .i64 0, .string ⟨#[]⟩] 40 (0, 0)) from by rw [hw1]; exact heap_alloc_at _ _ (by simp))
  go_enter Try.func37, Try.ntmps37
  go_upto_region 1 with fail
  rw [← hw1]
  clear hw1
  have c0 := cell_of_blk (o := 0) B0.out rfl; have c1 := cell_of_blk (o := 1) B0.out rfl; have c2 := cell_of_blk (o := 2) B0.out rfl
  go_wp2_with fail
  refine (HCO.out _).mono ?_
  rintro e w2 ⟨v, rfl, hv, h2⟩
  obtain ⟨bl, cap, rfl, hcl, hcm, hx, hy⟩ := hv.at HPT.out
  rw [hlen]
  rw [hlen] at hcl
  have HE := Lib.hid (HE.out.trans h2); have B0 := Lib.hid (block_ext h2 B0.out); have B1 := Lib.hid (block_ext h2 B1.out)
  have HZ2 := Lib.hid (show w.heap.size + 2 ≤ w2.heap.size from by have := HZ.out; have := h2.size; omega)
  clear h2 c0 c1 c2 HCO HPT hlen HZ
  have hsz : (s.size : Int) ≤ 200 := by omega
  have hf1 : (fr : Int) < ((s.size + 1 : Nat) : Int) := by omega
  have hf1' : (fr : Int) < (s.size : Int) + 1 := by omega
  have hf0 : (0 : Int) ≤ (fr : Int) := by omega
  have hf2 : (fr : Int) ≤ (s.size : Int) := by omega
  have hft : (fr : Int).toNat = fr := by omega
  have hf3 : fr < s.size + 1 := by omega
  have hsl1 : ∀ V : World, (Instr.slice 9 (.string s) (some (.int .i64 (fr : Int))) none none).run Try.prog V = .ok (.string sx1) V := fun V => by
    rw [run_slice_string_l V 9 s Try.underlying9 .i64 (fr : Int) hf0 hf2, hft, hx1]
  have hsl2 : ∀ V : World, (Instr.slice 9 (.string s) none (some (.int .i64 (fr : Int))) none).run Try.prog V = .ok (.string sx2) V := fun V => by
    rw [run_slice_string_h V 9 s Try.underlying9 .i64 (fr : Int) hf0 hf2, hft, hx2]
  clear hx1 hx2
  go_upto_region 2 with fail
  go_cut [8] from 14 (fun b wx => ∃ g : Nat, b = .pointer (some ⟨g, 0, none⟩) ∧ Hid (wx.heap[g]? = some (.cells #[.int .i64 x, .int .i64 y, .string rs] 40 (0, 0))) ∧ Hid (w2.heap.size ≤ g) ∧ Hid (Ext w2 wx))
  case first =>
    refine wp_region_tree (fun V : World => V.heap[w.heap.size]? = some (.cells #[.int .i64 X, .int .i64 Y, .string s] 40 (0, 0)) ∧ V.cell? ⟨bl, fr * 2, none⟩ = some (.int .i64 x) ∧ V.cell? ⟨bl, fr * 2 + 1, none⟩ = some (.int .i64 y)) (Tr.pres [0, 1, 2, 3, 4, 5, 6, 7, 8, 9, 10, 11, 12, 13, 14, 15, 16, 17, 18] (.alt 19 (.lin [20, 21]) 20 (.lin [19, 21]))) (by kernel_rfl) (by kernel_rfl) (by exact ⟨B0.out, hx, hy⟩) (fun hHeld => ?_)
    obtain ⟨w3, hw3⟩ : ∃ V, V = w2.drew := ⟨_, rfl⟩
    have hE3 : Ext w2 w3 := by rw [hw3]; exact (Ext.refl _).drew
    have hz3 : w3.heap.size = w2.heap.size := by rw [hw3]; rfl
    rw [← hw3] at hHeld ⊢
    clear hw3
    refine' tree_pres [0, 1, 2, 3, 4, 5, 6, 7, 8, 9, 10, 11, 12, 13, 14, 15, 16, 17, 18] 19 (by kernel_rfl) (by kernel_rfl) (by decide) hHeld ?ck1 ?cr1
    case ck1 =>
      intro W hSw
      have hSW := hSw
      try dsimp only at hSW
      clear hSw
      obtain ⟨s1, s2, s3⟩ := hSW
      have c0 := cell_of_blk (o := 0) s1 rfl; have c1 := cell_of_blk (o := 1) s1 rfl; have c2 := cell_of_blk (o := 2) s1 rfl
      clear s1
      simp only [opsIn, List.filterMap_cons, List.filterMap_nil, List.getElem?_toArray, List.getElem?_cons_succ, List.getElem?_cons_zero]
      simp only [List.take_succ_cons, List.take_zero]
      repeat (go_big_quiet_step (fail))
      exact wpQuiet_nil rfl
    clear hsl1 hsl2 hcat
    refine tree_alt (by rfl) (by rfl) (by rfl) (by rfl) (fun K hK => ?_) (fun K hK => ?_)
    · simp only [List.getElem_toArray, List.getElem_cons_zero, List.getElem_cons_succ]
      go_simp
      refine (chain_c _ _ _ _).mono ?_
      intro e w4 h1; obtain ⟨h1, h2⟩ := h1; subst h1
      all_goals (try (go_wp2_with fail))
      refine hK.out _ _ (by exact ⟨block_ext h2 hHeld.1, cell_ext h2 hHeld.2.1, cell_ext h2 hHeld.2.2⟩) (fun hHeld => ?_)
      clear hK K
      try simp only [Act.put, List.setIfInBounds_toArray, List.set_cons_zero, List.set_cons_succ]
      refine tree_lin ?_
      simp only [opsIn, List.filterMap_cons, List.filterMap_nil, List.getElem?_toArray, List.getElem?_cons_succ, List.getElem?_cons_zero]
      refine text_call (by rfl) (by rfl) (fun K hK => ?_)
      go_simp
      refine hK.out _ _ (by exact ⟨block_ext ((Ext.refl _).alloc _) hHeld.1, cell_ext ((Ext.refl _).alloc _) hHeld.2.1, cell_ext ((Ext.refl _).alloc _) hHeld.2.2⟩) (fun hHeld => ?_)
      clear hK K
      try simp only [Act.put, List.setIfInBounds_toArray, List.set_cons_zero, List.set_cons_succ]
      obtain ⟨w5, hw5⟩ : ∃ V, V = w4.alloc (.cells #[.int .i64 0, .int .i64 0, .string ⟨#[]⟩] 40) := ⟨_, rfl⟩
      rw [← hw5] at hHeld ⊢
      have hb5 : w5.heap[w4.heap.size]? = some (.cells #[.int .i64 0, .int .i64 0, .string ⟨#[]⟩] 40 (0, 0)) := by rw [hw5]; exact heap_alloc_new _ _
      have hE5 : Ext w2 w5 := by rw [hw5]; exact (hE3.trans h2).alloc _
      have hg5 : w2.heap.size ≤ w4.heap.size := by have := h2.size; omega
      clear hw5 h2
      refine text_call (by rfl) (by rfl) (fun K hK => ?_)
      refine wp_store_row 40 _ _ rfl w4.heap.size #[.int .i64 x, .int .i64 y, .string rs] rfl rfl 40 #[.int .i64 0, .int .i64 0, .string ⟨#[]⟩] hb5 INF3 rfl (ONE3 _ _ _) ?_
      have hs9 := setRow_heap' _ _ #[.int .i64 x, .int .i64 y, .string rs] _ _ hb5
      have he9 := setRow_ext hE5 hg5 #[.int .i64 x, .int .i64 y, .string rs]
      refine hK.out _ _ (by exact ⟨block_ext he9 B0.out, cell_ext he9 hx, cell_ext he9 hy⟩) (fun hHeld => ?_)
      clear hK K
      try simp only [Act.put, List.setIfInBounds_toArray, List.set_cons_zero, List.set_cons_succ]
      refine text_done ?_
      go_wp2_with fail
      go_meet
      exact ⟨_, rfl, Lib.hid hs9, Lib.hid hg5, Lib.hid he9⟩
    · simp only [List.getElem_toArray, List.getElem_cons_zero, List.getElem_cons_succ]
      go_simp
      refine hK.out _ _ (by exact ⟨block_ext ((Ext.refl _).alloc _) hHeld.1, cell_ext ((Ext.refl _).alloc _) hHeld.2.1, cell_ext ((Ext.refl _).alloc _) hHeld.2.2⟩) (fun hHeld => ?_)
      clear hK K
      try simp only [Act.put, List.setIfInBounds_toArray, List.set_cons_zero, List.set_cons_succ]
      obtain ⟨w5, hw5⟩ : ∃ V, V = w3.alloc (.cells #[.int .i64 0, .int .i64 0, .string ⟨#[]⟩] 40) := ⟨_, rfl⟩
      rw [← hw5] at hHeld ⊢
      have hb5 : w5.heap[w2.heap.size]? = some (.cells #[.int .i64 0, .int .i64 0, .string ⟨#[]⟩] 40 (0, 0)) := by rw [← hz3, hw5]; exact heap_alloc_new _ _
      have hE5 : Ext w2 w5 := by rw [hw5]; exact hE3.alloc _
      have hg5 : w2.heap.size ≤ w2.heap.size := Nat.le_refl _
      clear hw5
      try simp only [Act.put, List.setIfInBounds_toArray, List.set_cons_zero, List.set_cons_succ]
      refine tree_lin ?_
      simp only [opsIn, List.filterMap_cons, List.filterMap_nil, List.getElem?_toArray, List.getElem?_cons_succ, List.getElem?_cons_zero]
      refine text_call (by rfl) (by rfl) (fun K hK => ?_)
      go_simp
      refine (chain_c _ _ _ _).mono ?_
      intro e w4 h1; obtain ⟨h1, h2⟩ := h1; subst h1
      all_goals (try (go_wp2_with fail))
      refine hK.out _ _ (by exact ⟨block_ext h2 hHeld.1, cell_ext h2 hHeld.2.1, cell_ext h2 hHeld.2.2⟩) (fun hHeld => ?_)
      clear hK K
      try simp only [Act.put, List.setIfInBounds_toArray, List.set_cons_zero, List.set_cons_succ]
      have hb4 := block_ext h2 hb5
      have hE4 := hE5.trans h2
      refine text_call (by rfl) (by rfl) (fun K hK => ?_)
      refine wp_store_row 40 _ _ rfl w2.heap.size #[.int .i64 x, .int .i64 y, .string rs] rfl rfl 40 #[.int .i64 0, .int .i64 0, .string ⟨#[]⟩] hb4 INF3 rfl (ONE3 _ _ _) ?_
      have hs9 := setRow_heap' _ _ #[.int .i64 x, .int .i64 y, .string rs] _ _ hb4
      have he9 := setRow_ext hE4 hg5 #[.int .i64 x, .int .i64 y, .string rs]
      refine hK.out _ _ (by exact ⟨block_ext he9 B0.out, cell_ext he9 hx, cell_ext he9 hy⟩) (fun hHeld => ?_)
      clear hK K
      try simp only [Act.put, List.setIfInBounds_toArray, List.set_cons_zero, List.set_cons_succ]
      refine text_done ?_
      go_wp2_with fail
      go_meet
      exact ⟨_, rfl, Lib.hid hs9, Lib.hid hg5, Lib.hid he9⟩
  case rest =>
    obtain ⟨g, rfl, hg, hgs, h2⟩ := hcut
    clear hsl1 hsl2 hcat
    have HG := Lib.hid hg.out; have HGS := Lib.hid hgs.out; have HE := Lib.hid (HE.out.trans h2.out); have B1 := Lib.hid (block_ext h2.out B1.out)
    clear hg hgs h2 hx hy hcl hcm B0
    cases back
    · skip
      go_wp2_with (first | (refine wpList_load_row rfl 40 _ rfl _ rfl _ _ _ _ HG.out Try.underlying40 rfl INF3 ?_) | (refine wpList_store_row rfl 40 _ _ rfl (w.heap.size + 1) #[.int .i64 x, .int .i64 y, .string rs] rfl rfl _ _ B1.out INF3 rfl (ONE3 _ _ _) ?_) | fail)
      refine bodyPost_ret (v := .agg #[.int .i64 x, .int .i64 y, .string rs]) ?_ rfl ⟨by rw [HAR.out] <;> rfl, setRow_ext HE.out (by omega) _⟩
      exact results_cell_row (P := Try.prog) (fn := Try.f37) Try.results37 _ _ _ _ _ _ _ rfl (setRow_heap' _ _ _ _ _ B1.out) Try.underlying40 rfl INF3
    · obtain ⟨n, hn⟩ : ∃ n, n = rs.size := ⟨_, rfl⟩
      have hn2 : (rs.size : Int) = (n : Int) := by rw [hn]
      have HN := Lib.hid hn
      have hn200 : n ≤ 200 := by have := HRZ.out; omega
      clear hn
      go_wp2
      go_loopw [9, 10] (fun sv i wr => ∃ k : Nat, k ≤ n ∧ i = .int .i64 (k : Int) ∧ sv = .string (ByteArray.mk (((rs.data.toList.take k).map oppU).reverse.toArray)) ∧ Hid (wr.heap[g]? = some (.cells #[.int .i64 x, .int .i64 y, .string rs] 40 (0, 0))) ∧ Hid (wr.heap[w.heap.size + 1]? = some (.cells #[.int .i64 0, .int .i64 0, .string ⟨#[]⟩] 40 (0, 0))) ∧ Hid (Ext w wr)) (fun sv i wr => n - (intOf i).toNat)
      case atStart => exact ⟨0, Nat.zero_le _, rfl, rfl, HG, B1, HE⟩
      case round =>
        clear HG B1 HE
        obtain ⟨k, hk, rfl, rfl, HG, B1, HE⟩ := hrel
        have c2 := cell_of_blk (o := 2) HG.out rfl
        by_cases hlt : k < n
        · have hlt' : k < rs.size := by have := HN.out; omega
          have hkb : (k : Int) < (n : Int) := by omega
          have hkb2 : (k : Int) < (rs.size : Int) := by omega
          have hka : (0 : Int) ≤ (k : Int) := by omega
          obtain ⟨b, hb⟩ : ∃ b, b = rs[k]'hlt' := ⟨_, rfl⟩
          have hlk : rs.data.toList[k]? = some b := by
            rw [Array.getElem?_toList, Array.getElem?_eq_getElem (by simpa using hlt'), hb]; rfl
          obtain ⟨cv, hcv⟩ : ∃ cv : Int, cv = (b.toNat : Int) := ⟨_, rfl⟩
          have hix : ∀ W : World, (Instr.index 9 (.string rs) (.int .i64 (k : Int))).run Try.prog W = .ok (.int .u8 cv) W := fun W => by
            rw [run_index_string (h := Try.underlying9), dif_pos ⟨hka, hkb2⟩, hcv, hb]
            rfl
          obtain ⟨hb1, hb2, hb3, hb4⟩ := opp_letter b
          rw [← hcv] at hb1 hb2 hb3 hb4
          have hst := opp_step rs.data.toList hlk
          have hsz1 : (ByteArray.mk (((rs.data.toList.take k).map oppU).reverse.toArray)).size ≤ 200 := by
            show ((rs.data.toList.take k).map oppU).reverse.toArray.size ≤ 200
            simp
            omega
          generalize ByteArray.mk (((rs.data.toList.take k).map oppU).reverse.toArray) = sk at *
          obtain ⟨sn, hsn⟩ : ∃ sn, ByteArray.mk (((rs.data.toList.take (k + 1)).map oppU).reverse.toArray) = sn := ⟨_, rfl⟩
          rw [hsn] at hst
          have HSN := Lib.hid hsn
          have HADD := Lib.hid (show ∀ V : World, (Op.stringOp .add (ByteArray.mk #[oppU b]) sk).run Try.prog V = .ok (.string sn) V from fun V => by
            rw [run_string_add_sum V _ _ (by
              have : (ByteArray.mk #[oppU b]).size = 1 := rfl
              omega), hst])
          clear hb hlk hcv hst hsn hsz1 hkb2
          by_cases q1 : cv = 78
          · have hadd := HADD.out
            rw [hb1 q1] at hadd
            subst q1
            clear hb1 hb2 hb3 hb4 hlt'
            go_wp2
            go_roundw
            case rel => exact ⟨k + 1, by omega, by go_num, by rw [HSN.out], HG, B1, HE⟩
            case measure => simp [intOf]; omega
          by_cases q2 : cv = 87
          · have hadd := HADD.out
            rw [hb2 q2] at hadd
            subst q2
            clear hb1 hb2 hb3 hb4 hlt' q1
            go_wp2
            go_roundw
            case rel => exact ⟨k + 1, by omega, by go_num, by rw [HSN.out], HG, B1, HE⟩
            case measure => simp [intOf]; omega
          by_cases q3 : cv = 83
          · have hadd := HADD.out
            rw [hb3 q3] at hadd
            subst q3
            clear hb1 hb2 hb3 hb4 hlt' q1 q2
            go_wp2
            go_roundw
            case rel => exact ⟨k + 1, by omega, by go_num, by rw [HSN.out], HG, B1, HE⟩
            case measure => simp [intOf]; omega
          · have hadd := HADD.out
            rw [hb4 q1 q2 q3] at hadd
            clear hb1 hb2 hb3 hb4 hlt'
            have d1 : decide (cv = 78) = false := decide_eq_false q1
            have d2 : decide (cv = 87) = false := decide_eq_false q2
            have d3 : decide (cv = 83) = false := decide_eq_false q3
            go_wp2
            go_roundw
            case rel => exact ⟨k + 1, by omega, by go_num, by rw [HSN.out], HG, B1, HE⟩
            case measure => simp [intOf]; omega
        · obtain rfl : k = n := by omega
          have hall : ByteArray.mk (((rs.data.toList.take k).map oppU).reverse.toArray) = backS rs := by
            have := HN.out
            rw [List.take_of_length_le (by simp; omega)]
            rfl
          rw [hall]
          obtain ⟨bs, hbs⟩ : ∃ bs, bs = backS rs := ⟨_, rfl⟩
          have HAR := Lib.hid (show ar = bs from by rw [HAR.out, hbs]; rfl)
          rw [← hbs]
          clear hall hbs
          have hg5 := set3c HG.out (.string bs)
          have hb5 : (wr.setCell ⟨g, 2, none⟩ (.string bs)).heap[w.heap.size + 1]? = _ := (other_blk (grown_set wr g 2 (.string bs)) (by have := HGS.out; have := HZ2.out; omega) (lt_of_blk B1.out)).trans B1.out
          have he5 : Ext w (wr.setCell ⟨g, 2, none⟩ (.string bs)) := HE.out.set (by have := HGS.out; have := HZ2.out; omega) _ _
          have f0 := frozen_of_blk HG.out 2
          go_upto_region 19 with fail
          have HX := Lib.hid hg5; have HY := Lib.hid hb5; have HZ5 := Lib.hid he5
          clear hg5 hb5 he5 f0 c2 HG B1 HE
          go_wp2_with (first | (refine wpList_load_row rfl 40 _ rfl _ rfl _ _ _ _ HX.out Try.underlying40 rfl INF3 ?_) | (refine wpList_store_row rfl 40 _ _ rfl (w.heap.size + 1) #[.int .i64 x, .int .i64 y, .string bs] rfl rfl _ _ HY.out INF3 rfl (ONE3 _ _ _) ?_) | fail)
          refine bodyPost_ret (v := .agg #[.int .i64 x, .int .i64 y, .string bs]) ?_ rfl ⟨by rw [HAR.out] <;> rfl, setRow_ext HZ5.out (by omega) _⟩
          exact results_cell_row (P := Try.prog) (fn := Try.f37) Try.results37 _ _ _ _ _ _ _ rfl (setRow_heap' _ _ _ _ _ HY.out) Try.underlying40 rfl INF3

end Go.Proofs.Ytppjnpempgpkaaa
