/- isStick, isWithin, every over letters and corners, staysWithin, by their contracts. isClosed, by its contract. water, by its contract. -/
import Derived.Test.YtppjnpempgpkaaaGreatK1
import Derived.Test.YtppjnpempgpkaaaGreatN1
import Derived.Lib.ConvBytes
import Derived.Lib.Bytealg
import Derived.Laws.Externs
import Derived.Test.YtppjnpempgpkaaaGreatM
import Derived.Test.YtppjnpempgpkaaaGreatB5
namespace Go.Proofs.YtppjnpempgpkaaaGreat
open Go.RowKit Go.Shelf
set_option linter.unusedVariables false
set_option linter.unusedSimpArgs false
attribute [local go_sem] Oper.semAt_some

def okL (b : UInt8) : Bool := decide (dirU b < 4)
theorem index_ok : ((List.range 256).all fun n => decide (0 ≤ Lib.indexByte [69, 78, 87, 83] (UInt8.ofNat n)) == okL (UInt8.ofNat n)) = true := by decide +kernel
theorem index_is (b : UInt8) : decide (0 ≤ Lib.indexByte [69, 78, 87, 83] b) = okL b := by
  have h := List.all_eq_true.1 index_ok b.toNat (List.mem_range.2 (by have := b.toNat_lt; omega))
  rw [beq_iff_eq] at h
  simpa using h
set_option maxRecDepth 100000 in
theorem indexByteS_c (s : ByteArray) (c : Int) (w : World) : Calls Tryz.prog 120 #[.string s, .int .u8 c] w fun e w' => e = .returned (.int .i64 (Lib.indexByte s.data.toList c.toNat.toUInt8)) ∧ w' = w := by
  go_enter Tryz.func120, Tryz.ntmps120
  go_wp2
  rw [run_callFunc_extern Tryz.func122 (by kernel_rfl) (by kernel_rfl) (by kernel_rfl) (e := Extern.BytealgIndexByte.indexByte) (by kernel_rfl), Lib.run_indexByteString]
  simp only [Result.andThen]
  rw [Oper.upon_value]
  go_wp2
  go_ret
  exact ⟨rfl, rfl⟩
theorem indexByte_c (s : ByteArray) (c : Int) (w : World) : Calls Tryz.prog 103 #[.string s, .int .u8 c] w fun e w' => e = .returned (.int .i64 (Lib.indexByte s.data.toList c.toNat.toUInt8)) ∧ w' = w := by
  go_enter Tryz.func103, Tryz.ntmps103
  go_wp2_with fail
  refine (indexByteS_c s c w).mono ?_
  rintro e w' ⟨rfl, rfl⟩
  go_wp2
  go_ret
  exact ⟨rfl, rfl⟩
theorem isStick_c (b : UInt8) (w : World) : Calls Tryz.prog 70 #[.int .u8 (b.toNat : Int)] w fun e w' => e = .returned (.bool (okL b)) ∧ Ext w w' := by
  have hI := Lib.hid (index_is b)
  go_enter Tryz.func70, Tryz.ntmps70
  go_wp2_with fail
  refine (indexByte_c _ _ w).mono ?_
  rintro e w' ⟨rfl, rfl⟩
  have e1 : ((b.toNat : Int)).toNat.toUInt8 = b := by simp
  rw [e1]
  obtain ⟨r, hr⟩ : ∃ r, r = Lib.indexByte [69, 78, 87, 83] b := ⟨_, rfl⟩
  rw [show (⟨#[69, 78, 87, 83]⟩ : ByteArray).data.toList = [69, 78, 87, 83] from rfl, ← hr]
  have HR := Lib.hid hr
  clear hr e1
  go_wp2
  go_ret
  exact ⟨ret_bool (by rw [HR.out]; exact hI.out), Ext.refl _⟩
theorem isWithin_c (p : Pt) (w : World) : Calls Tryz.prog 106 #[.agg #[.int .i64 p.1, .int .i64 p.2]] w fun e w' => e = .returned (.bool (onB' p)) ∧ Ext w w' := by
  obtain ⟨x, y⟩ := p
  have hd : onB' (x, y) = inn 0 8 [x, y] := by
    unfold onB' inn
    simp only [List.all_cons, List.all_nil, Bool.and_true]
    rw [Bool.eq_iff_iff]
    simp
  rw [hd]
  dsimp only
  clear hd
  have E0 := Lib.hid ((Ext.refl w).alloc (.cells #[.int .i64 x, .int .i64 y] 146))
  go_enter Tryz.func106, Tryz.ntmps106
  go_wp2_with fail
  refine (within2 0 8 x y _ _ (by simp)).mono ?_
  rintro e w1 ⟨rfl, rfl⟩
  go_wp2
  go_ret
  exact ⟨rfl, E0.out.alloc _⟩
theorem every_bytes (l : List UInt8) (g n cap : Nat) (w : World) (hn : n = l.length) (hl : n ≤ 5000) (hc : ∀ (i : Nat) (b : UInt8), l[i]? = some b → w.cell? ⟨g, i, none⟩ = some (.int .u8 (b.toNat : Int))) :
    Calls Tryz.prog 69 #[.slice (some ⟨g, 0, none⟩) n cap, .func (.func 70) #[] #[]] w fun e w' => e = .returned (.bool (l.all okL)) ∧ Ext w w' := by
  have HC := Lib.hid hc; have HN := Lib.hid hn; clear hc hn
  have hl2 : n ≤ 9223372036854775807 := by omega
  go_enter Tryz.func69, Tryz.ntmps69
  go_wp2
  go_loopw [9] (fun i wr => ∃ k : Nat, k ≤ n ∧ i = .int .i64 k ∧ Hid ((l.take k).all okL = true) ∧ Hid (Ext w wr)) (fun i wr => n - (intOf i).toNat)
  case atStart => exact ⟨0, Nat.zero_le _, rfl, Lib.hid rfl, Lib.hid (Ext.refl w)⟩
  case round =>
    obtain ⟨k, hk, rfl, hall, hE⟩ := hrel
    by_cases hlt : k < n
    · obtain ⟨b, hb⟩ : ∃ b, l[k]? = some b := get_some (by rw [← HN.out]; exact hlt)
      have cb := cell_ext hE.out (HC.out k b hb)
      have HB := Lib.hid hb; clear hb
      have hka : (0 : Int) ≤ (k : Int) := by omega
      have hkb : (k : Int) < (n : Int) := by omega
      have HH := Lib.hid (isStick_c b wr)
      obtain ⟨c, hcc⟩ : ∃ c : Int, c = (b.toNat : Int) := ⟨_, rfl⟩
      obtain ⟨pv, hpv⟩ : ∃ pv, pv = okL b := ⟨_, rfl⟩
      rw [← hcc, ← hpv] at HH
      rw [← hcc] at cb
      have HPV := Lib.hid hpv
      clear hcc hpv
      cases pv
      · go_wp2_with fail
        refine HH.out.mono ?_
        rintro e w1 ⟨rfl, hb⟩
        have E1 := Lib.hid (hE.out.trans hb); clear hb
        go_wp2
        go_ret
        refine ⟨ret_bool ?_, E1.out⟩
        symm
        rw [List.all_eq_false]
        exact ⟨b, List.mem_of_getElem? HB.out, by rw [← HPV.out]; simp⟩
      · go_wp2_with fail
        refine HH.out.mono ?_
        rintro e w1 ⟨rfl, hb⟩
        have E1 := Lib.hid (hE.out.trans hb); clear hb
        go_wp2
        go_roundw
        case rel => exact ⟨k + 1, by omega, by go_num, Lib.hid (by rw [take_snoc HB.out, List.all_append, hall.out]; simp [← HPV.out]), E1⟩
        case measure => simp [intOf]; omega
    · go_wp2
      go_ret
      have : k = n := by omega
      subst this
      have h1 := hall.out
      rw [HN.out, List.take_of_length_le (Nat.le_refl _)] at h1
      exact ⟨ret_bool h1.symm, hE.out⟩
theorem every_corners (l : List Pt) (B : Nat) (v : Value) (w : World) (ho : OwnC B w v l) (hl : l.length ≤ 1000) :
    Calls Tryz.prog 104 #[v, .func (.func 106) #[] #[]] w fun e w' => e = .returned (.bool (l.all onB')) ∧ Ext w w' := by
  obtain ⟨av, cap, rfl⟩ := ho.shape
  obtain ⟨n, hn⟩ : ∃ n, n = l.length := ⟨_, rfl⟩
  rw [← hn] at ho hl ⊢
  have HO := Lib.hid ho; have HN := Lib.hid hn; clear ho hn
  have hl2 : n ≤ 9223372036854775807 := by omega
  go_enter Tryz.func104, Tryz.ntmps104
  go_wp2
  go_loopw [9] (fun i wr => ∃ k : Nat, k ≤ n ∧ i = .int .i64 k ∧ Hid ((l.take k).all onB' = true) ∧ Hid (Ext w wr)) (fun i wr => n - (intOf i).toNat)
  case atStart => exact ⟨0, Nat.zero_le _, rfl, Lib.hid rfl, Lib.hid (Ext.refl w)⟩
  case round =>
    obtain ⟨k, hk, rfl, hall, hE⟩ := hrel
    by_cases hlt : k < n
    · obtain ⟨p, hp⟩ : ∃ p, l[k]? = some p := get_some (by rw [← HN.out]; exact hlt)
      obtain ⟨g, cap', e1, -, -, c0, c1⟩ := (HO.out.ext hE.out).at hp
      injection e1 with e2 e3 e4
      subst e2
      have HB := Lib.hid hp; clear hp e3 e4
      have hka : (0 : Int) ≤ (k : Int) := by omega
      have hkb : (k : Int) < (n : Int) := by omega
      have HH := Lib.hid (fun X => isWithin_c p X)
      obtain ⟨pv, hpv⟩ : ∃ pv, pv = onB' p := ⟨_, rfl⟩
      rw [← hpv] at HH
      have HPV := Lib.hid hpv
      clear hpv
      obtain ⟨x, y⟩ := p
      dsimp only at c0 c1 HH
      cases pv
      · go_wp2_with fail
        refine (HH.out _).mono ?_
        rintro e w1 ⟨rfl, hb⟩
        have E1 := Lib.hid ((hE.out.alloc _).trans hb); clear hb
        go_wp2
        go_ret
        refine ⟨ret_bool ?_, E1.out⟩
        symm
        rw [List.all_eq_false]
        exact ⟨(x, y), List.mem_of_getElem? HB.out, by rw [← HPV.out]; simp⟩
      · go_wp2_with fail
        refine (HH.out _).mono ?_
        rintro e w1 ⟨rfl, hb⟩
        have E1 := Lib.hid ((hE.out.alloc _).trans hb); clear hb
        go_wp2
        go_roundw
        case rel => exact ⟨k + 1, by omega, by go_num, Lib.hid (by rw [take_snoc HB.out, List.all_append, hall.out]; simp [← HPV.out]), E1⟩
        case measure => simp [intOf]; omega
    · go_wp2
      go_ret
      have : k = n := by omega
      subst this
      have h1 := hall.out
      rw [HN.out, List.take_of_length_le (Nat.le_refl _)] at h1
      exact ⟨ret_bool h1.symm, hE.out⟩
theorem staysWithin_c (X Y : Int) (s : ByteArray) (w : World) (hs : s.size ≤ 200) :
    Calls Tryz.prog 71 #[.agg #[.int .i64 X, .int .i64 Y, .string s]] w fun e w' => e = .returned (.bool ((ptsW (X, Y) (dirs s)).all onB')) ∧ Ext w w' := by
  have E0 := Lib.hid ((Ext.refl w).alloc (.cells #[.int .i64 X, .int .i64 Y, .string s] 97))
  have HC := Lib.hid (fun Z => corners_c X Y s Z hs)
  have HL := Lib.hid (show (ptsW (X, Y) (dirs s)).length ≤ 1000 from by rw [ptsW_len, dirs_len]; omega)
  go_enter Tryz.func71, Tryz.ntmps71
  go_wp2_with fail
  refine (HC.out _).mono ?_
  rintro e w1 ⟨v, rfl, ho, hE⟩
  have HO := Lib.hid ho; have E1 := Lib.hid (E0.out.trans hE); clear ho hE
  go_wp2_with fail
  refine (every_corners _ _ v w1 HO.out HL.out).mono ?_
  rintro e w2 ⟨rfl, hE⟩
  have E2 := Lib.hid (E1.out.trans hE); clear hE
  go_wp2
  go_ret
  exact ⟨rfl, E2.out⟩
end Go.Proofs.YtppjnpempgpkaaaGreat
namespace Go.Proofs.YtppjnpempgpkaaaGreat
open Go.RowKit Go.Shelf Go.Maps
set_option linter.unusedVariables false
set_option linter.unusedSimpArgs false
attribute [local go_sem] Oper.semAt_some

theorem wpList_put_run {ops : Array Oper} {rest : List Oper} {o : Oper} {a : Act} {Q : Exit → Act → World → Prop} {w w' : World} (hgd : o.guard = none) (ty : TypeId) (s x y : Operand) (ho : o.op = .mapUpdate ty s x y)
    {v sl u : Value} (hs : a.eval s = v) (hx : a.eval x = sl) (hy : a.eval y = u) (hrun : (Instr.mapUpdate ty v sl u).run Tryz.prog w = .ok () w') (h : wpList Tryz.prog ops Q rest (a.put o.dst undef) w') : wpList Tryz.prog ops Q (o :: rest) a w :=
  wpList_plain hgd fun K hK => by
    unfold Oper.wp
    simp [execOp, ho, hs, hx, hy, hrun, Result.andThen]
    exact hK _ _ h
theorem pt_eq (a b c d : Int) : decide ((a, b) = (c, d)) = (decide (a = c) && decide (b = d)) := by
  rw [← Bool.decide_and]; exact decide_eq_decide.2 (by simp)
theorem corner_eq (a b c d : Int) (V : World) : (Op.equalIn 10000 146 (.agg #[.int .i64 a, .int .i64 b]) (.agg #[.int .i64 c, .int .i64 d])).run Tryz.prog V = .ok (decide ((a, b) = (c, d))) V := by
  rw [pt_eq]
  by_cases h1 : a = c <;> by_cases h2 : b = d <;> simp [go_sem, h1, h2]
theorem sm_on {p : Pt} (h : onB' p = true) : Sm p := by
  unfold onB' at h
  rw [decide_eq_true_iff] at h
  exact ⟨by omega, by omega⟩
theorem nodup_take_snoc {l : List Pt} {k : Nat} {p : Pt} (h : l[k]? = some p) : (l.take (k + 1)).Nodup ↔ (l.take k).Nodup ∧ p ∉ l.take k := by
  rw [take_snoc h, List.nodup_append]
  constructor
  · rintro ⟨h1, -, h3⟩
    exact ⟨h1, fun hm => h3 p hm p (by simp) rfl⟩
  · rintro ⟨h1, h2⟩
    exact ⟨h1, by simp, fun a ha b hb e => by simp at hb; subst hb; subst e; exact h2 ha⟩
theorem OwnC.grownM {B b : Nat} {w w' : World} {v : Value} {l : List Pt} (h : OwnC B w v l) (hg : w.grownBy w' (some b)) (hb : ∀ (cs : Array Value) (t : TypeId) (fr : Nat × Nat), w.heap[b]? ≠ some (.cells cs t fr)) : OwnC B w' v l := by
  obtain ⟨h1, h2⟩ := h
  refine ⟨h1, h2.imp id ?_⟩
  rintro ⟨g, cap, cur, rfl, hgb, hh, r⟩
  refine ⟨g, cap, cur, rfl, hgb, ?_, r⟩
  rw [hg.block g (lt_of_blk hh) (by intro h; cases h; exact hb _ _ _ hh)]
  exact hh
set_option maxRecDepth 100000 in
set_option maxHeartbeats 1000000 in
theorem isClosed_c (X YY : Int) (s : ByteArray) (w : World) (hs : s.size ≤ 200) (hne : 0 < s.size) (hb : (ptsW (X, YY) (dirs s)).all onB' = true) :
    Calls Tryz.prog 72 #[.agg #[.int .i64 X, .int .i64 YY, .string s]] w fun e w' => e = .returned (.bool (decide ((ptsW (X, YY) (dirs s)).tail.Nodup) && decide (finW (X, YY) (dirs s) = (X, YY)))) ∧ Ext w w' := by
  obtain ⟨l, hl⟩ : ∃ l, l = (ptsW (X, YY) (dirs s)).tail := ⟨_, rfl⟩
  have hcons : ptsW (X, YY) (dirs s) = (X, YY) :: l := by
    rw [hl]; cases dirs s <;> rfl
  obtain ⟨n, hn⟩ : ∃ n, n = l.length := ⟨_, rfl⟩
  have hnl : n = s.size := by
    have := ptsW_len (X, YY) (dirs s)
    rw [hcons, dirs_len, List.length_cons, ← hn] at this
    omega
  have hlast : ∃ q, l[n - 1]? = some q ∧ q = finW (X, YY) (dirs s) := ⟨_, by
    have h1 := ptsW_last (X, YY) (dirs s)
    rw [hcons, dirs_len, ← hnl, show n = (n - 1) + 1 from by omega] at h1
    simpa using h1, rfl⟩
  have HC := Lib.hid (fun Z => corners_c X YY s Z hs)
  rw [hcons] at HC hb
  rw [← hl]
  have hbl : ∀ p ∈ l, onB' p = true := fun p hp => List.all_eq_true.1 hb p (by simp [hp])
  obtain ⟨⟨ex, ey⟩, hq, hqf⟩ := hlast
  rw [← hqf]
  have HBL := Lib.hid hbl; have HN := Lib.hid hn; have HQ := Lib.hid hq
  obtain ⟨w1, hw1⟩ : ∃ w1, w1 = w.alloc (.cells #[.int .i64 X, .int .i64 YY, .string s] 97) := ⟨_, rfl⟩
  have hE1 : Ext w w1 := by rw [hw1]; exact (Ext.refl w).alloc _
  have B0 := Lib.hid (show w1.heap[w.heap.size]? = some (.cells #[.int .i64 X, .int .i64 YY, .string s] 97 (0, 0)) from by rw [hw1]; exact heap_alloc_new w _)
  have HE1 := Lib.hid hE1; have HW1 := Lib.hid hw1
  have hn63 : n ≤ 9223372036854775806 := by omega
  have hn0 : 0 < n := by omega
  have hn2 : n ≤ 200 := by omega
  have hmm := @run_makeMap Tryz.prog
  obtain ⟨rb, hrb⟩ : ∃ rb, rb = (decide l.Nodup && decide ((ex, ey) = (X, YY))) := ⟨_, rfl⟩
  rw [← hrb]
  have HRB := Lib.hid hrb
  clear hl hcons hn hnl hq hqf hbl hb hE1 hw1 hs hne hrb
  obtain ⟨c0, c1, c2⟩ : w1.cell? ⟨w.heap.size, 0, none⟩ = some (.int .i64 X) ∧ w1.cell? ⟨w.heap.size, 1, none⟩ = some (.int .i64 YY) ∧ w1.cell? ⟨w.heap.size, 2, none⟩ = some (.string s) := ⟨cell_of_blk B0.out rfl, cell_of_blk B0.out rfl, cell_of_blk B0.out rfl⟩
  go_enter Tryz.func72, Tryz.ntmps72
  go_upto_region 1 with fail
  rw [← HW1.out]
  go_upto_region 2 with (first | (go_at_call 105; refine Calls.mono (HC.out _) ?_; intro e w2 h1; obtain ⟨v, h1, ho, hE⟩ := h1; subst h1; have HO := Lib.hid ho; have HE2 := Lib.hid (HE1.out.trans hE); clear ho hE) | fail)
  obtain ⟨av, cap, hv⟩ := HO.out.shape
  subst hv
  rw [List.length_cons, ← HN.out] at HO ⊢
  obtain ⟨g, cap', e1, hc1, hc2, d0, d1⟩ := HO.out.at (i := 0) (p := (X, YY)) rfl
  injection e1 with e2 e3 e4
  subst e2 e4
  rw [List.length_cons, ← HN.out] at hc1
  dsimp only at d0 d1
  rw [Nat.zero_mul] at d0 d1
  clear e3 c0 c1 c2
  have hcap1 : cap ≠ 1 := by omega
  refine wp_region_order (fun Y : World => Y.cell? ⟨g, 0, none⟩ = some (.int .i64 X) ∧ Y.cell? ⟨g, 1, none⟩ = some (.int .i64 YY)) [0, 1, 2, 3, 4, 5, 6, 7] (by kernel_rfl) (by kernel_rfl) (by exact ⟨d0, d1⟩) (fun hHeld => ?_)
  simp only [opsIn, List.filterMap_cons, List.filterMap_nil, List.getElem?_toArray, List.getElem?_cons_succ, List.getElem?_cons_zero]
  refine' text_chunk 5 (by kernel_rfl) hHeld ?ck1 ?cr1
  case ck1 =>
    intro W hSw
    have hSW := hSw
    try dsimp only at hSW
    clear hSw
    obtain ⟨s1, s2⟩ := hSW
    simp only [List.take_succ_cons, List.take_zero, List.drop_succ_cons, List.drop_zero]
    repeat (go_big_quiet_step (fail))
    exact wpQuiet_nil rfl
  simp only [List.take_succ_cons, List.take_zero, List.drop_succ_cons, List.drop_zero]
  refine text_call (by rfl) (by rfl) (fun K hK => ?_)
  go_simp
  obtain ⟨V2, hV2⟩ : ∃ V2, V2 = (w2.alloc (.cells #[.int .i64 0, .int .i64 0] 146)).drew := ⟨_, rfl⟩
  have HV2 := Lib.hid (show Ext w2 V2 from by rw [hV2]; exact ((Ext.refl _).alloc _).drew)
  have hzb : V2.heap[w2.heap.size]? = some (.cells #[.int .i64 0, .int .i64 0] 146 (0, 0)) := by rw [hV2]; exact heap_alloc_new w2 _
  have ZB := Lib.hid hzb
  rw [← hV2]
  clear hV2 hzb
  refine hK.out _ _ (by exact ⟨cell_ext HV2.out d0, cell_ext HV2.out d1⟩) (fun hHeld => ?_)
  clear hK K
  try simp only [Act.put, List.setIfInBounds_toArray, List.set_cons_zero, List.set_cons_succ]
  refine text_call_more (by rfl) (by rfl) (fun K hK => ?_)
  obtain ⟨z0, z1⟩ := cells2 ZB.out
  have y0 := frozen_of_blk ZB.out 0
  have y1 := frozen_of_blk ZB.out 1
  go_simp
  obtain ⟨V3, hV3⟩ : ∃ V3, V3 = (V2.setCell ⟨w2.heap.size, 0, none⟩ (.int .i64 X)).setCell ⟨w2.heap.size, 1, none⟩ (.int .i64 YY) := ⟨_, rfl⟩
  have hE3 : Ext w2 V3 := by rw [hV3]; exact (Ext.set HV2.out (Nat.le_refl _) _ _).set (Nat.le_refl _) _ _
  have hb3 : V3.heap[w2.heap.size]? = some (.cells #[.int .i64 X, .int .i64 YY] 146 (0, 0)) := by rw [hV3]; exact set2 ZB.out _ _
  have HE3 := Lib.hid hE3; have HB3 := Lib.hid hb3
  rw [← hV3]
  clear hV3 hE3 hb3 z0 z1 y0 y1
  refine hK.out (fun Y => Y = V3) _ _ (fun Y hY => by rw [hY]; exact ⟨cell_ext HE3.out d0, cell_ext HE3.out d1⟩) rfl (fun hHeld => ?_)
  clear hK K
  try simp only [Act.put, List.setIfInBounds_toArray, List.set_cons_zero, List.set_cons_succ]
  refine' text_chunk 1 (by kernel_rfl) hHeld ?ck2 ?cr2
  case ck2 =>
    intro W hSw
    have hSW := hSw
    try dsimp only at hSW
    clear hSw
    skip
    simp only [List.take_succ_cons, List.take_zero, List.drop_succ_cons, List.drop_zero]
    repeat (go_big_quiet_step (fail))
    exact wpQuiet_nil rfl
  simp only [List.take_succ_cons, List.take_zero, List.drop_succ_cons, List.drop_zero]
  refine text_done ?_
  obtain ⟨mo, hmo⟩ : ∃ mo, mo = V3.heap.size := ⟨_, rfl⟩
  obtain ⟨V4, hV4⟩ : ∃ V4, V4 = V3.alloc (.map #[] 0) := ⟨_, rfl⟩
  have hE4 : Ext V3 V4 := by rw [hV4]; exact (Ext.refl _).alloc _
  have HM4 := Lib.hid (show CMap V4 mo 0 (([] : List Pt).reverse) from by rw [hV4, hmo]; exact CMap.made V3)
  have HB4 := Lib.hid (block_ext hE4 HB3.out)
  have HO4 := Lib.hid (((HO.out.ext HE3.out).ext hE4).weak HE1.out.size)
  have HE4 := Lib.hid (HE2.out.trans (HE3.out.trans hE4))
  have hmw : w.heap.size ≤ mo := by rw [hmo]; exact (HE2.out.trans HE3.out).size
  have HMB := Lib.hid (show w2.heap.size ≠ mo from by rw [hmo]; have := lt_of_blk HB3.out; omega)
  clear d0 d1
  go_upto_region 4 with fail
  rw [← hV4, ← hmo]
  clear hmm hV4 hmo hE4 HB3 HO HE2 HE3 HV2 ZB HC HE1 HW1 B0
  go_wp2
  go_loopw [19] (fun i wr => ∃ k : Nat, k ≤ n ∧ i = .int .i64 k ∧ Hid ((l.take k).Nodup) ∧ Hid (CMap wr mo k ((l.take k).reverse)) ∧ Hid (wr.heap[w2.heap.size]? = some (.cells #[.int .i64 X, .int .i64 YY] 146 (0, 0))) ∧ Hid (OwnC w.heap.size wr (.slice (some ⟨g, 0, none⟩) (n + 1) cap) ((X, YY) :: l)) ∧ Hid (Ext w wr)) (fun i wr => n - (intOf i).toNat)
  case atStart => exact ⟨0, Nat.zero_le _, rfl, Lib.hid List.nodup_nil, HM4, HB4, HO4, HE4⟩
  case round =>
    clear HM4 HB4 HO4 HE4
    obtain ⟨k, hk, rfl, hnd, hm, hb, ho, hE⟩ := hrel
    by_cases hlt : k < n
    · obtain ⟨p, hp⟩ : ∃ p, l[k]? = some p := get_some (by rw [← HN.out]; exact hlt)
      obtain ⟨g', cap', e1, -, -, d0, d1⟩ := ho.out.at (i := k + 1) (p := p) (by simpa using hp)
      injection e1 with e2 e3 e4
      cases e2
      clear e3 e4
      rw [show (k + 1) * 2 = 2 + k * 2 from by omega] at d0 d1
      have hsm := sm_on (HBL.out p (List.mem_of_getElem? hp))
      have HSM := Lib.hid hsm
      obtain ⟨fl, hfl⟩ : ∃ fl, fl = inF ((l.take k).reverse) p := ⟨_, rfl⟩
      obtain ⟨W5, hW5⟩ : ∃ W5, W5 = wr.alloc (.cells #[.int .i64 p.1, .int .i64 p.2] 146) := ⟨_, rfl⟩
      have hE5 : Ext wr W5 := by rw [hW5]; exact (Ext.refl _).alloc _
      have hL := (hm.out.ext hE5).look p hsm
      rw [← hfl] at hL
      have HFL := Lib.hid hfl; have HP := Lib.hid hp
      have HM5 := Lib.hid (hm.out.ext hE5); have HB5 := Lib.hid (block_ext hE5 hb.out); have HO5 := Lib.hid (ho.out.ext hE5); have HE5 := Lib.hid (hE.out.trans hE5)
      have hb5 : W5.heap[wr.heap.size]? = some (.cells #[.int .i64 p.1, .int .i64 p.2] 146 (0, 0)) := by rw [hW5]; exact heap_alloc_new wr _
      have hka : (0 : Int) ≤ (k : Int) := by omega
      have hkb : (k : Int) < (n : Int) := by omega
      obtain ⟨px, py⟩ := p
      dsimp only at d0 d1
      unfold kv at hL
      dsimp only at hL hb5 hW5
      clear hfl hp hsm hm hb ho
      go_upto_region 7 with fail
      rw [← hW5]
      have HW5 := Lib.hid hW5
      clear hW5 d0 d1
      obtain ⟨z0, z1⟩ := cells2 hb5
      cases fl
      · obtain ⟨w', hrun, hm', ht⟩ := HM5.out.put (by omega) (px, py) HSM.out
        unfold kv at hrun
        dsimp only at hrun
        have hg := ht.grown
        have hmb := HM5.out.blk
        have HM6 := Lib.hid (show CMap w' mo (k + 1) ((l.take (k + 1)).reverse) from by rw [take_snoc HP.out, List.reverse_append]; exact hm')
        have HB6 := Lib.hid ((hg.block _ (lt_of_blk HB5.out) (fun e => by have := Option.some.inj e; exact HMB.out this)).trans HB5.out)
        have HO6 := Lib.hid (HO5.out.grownM hg (fun cs t fr h => by obtain ⟨es, ck', h2⟩ := hmb; rw [h2] at h; cases h))
        have HE6 := Lib.hid (grown_any HE5.out hg (fun g e => by cases e; exact hmw))
        have HND := Lib.hid ((nodup_take_snoc HP.out).2 ⟨hnd.out, fun hmem => by
          have := HFL.out
          rw [show inF ((l.take k).reverse) (px, py) = true from by unfold inF; simp [hmem]] at this
          cases this⟩)
        clear hm' ht hg hmb hb5
        go_wp2_with (first | (refine wpList_put_run rfl 150 _ _ _ rfl rfl rfl rfl hrun ?_) | fail)
        go_roundw
        case rel => exact ⟨k + 1, by omega, by go_num, HND, HM6, HB6, HO6, HE6⟩
        case measure => simp [intOf]; omega
      · have hno : ¬ l.Nodup := fun h => by
          have h2 := (nodup_take_snoc HP.out).1 (h.sublist (List.take_sublist _ _))
          have := HFL.out
          unfold inF at this
          exact h2.2 (by simpa using this.symm)
        have HR := Lib.hid (show rb = false from by rw [HRB.out, decide_eq_false hno, Bool.false_and])
        clear hno hb5
        go_wp2
        go_ret
        exact ⟨ret_bool HR.out.symm, HE5.out⟩
    · obtain rfl : k = n := by omega
      have hndl : l.Nodup := by
        have := hnd.out
        rw [HN.out, List.take_of_length_le (Nat.le_refl _)] at this
        exact this
      obtain ⟨g', cap', e1, -, -, d0, d1⟩ := ho.out.at (i := k) (p := (ex, ey)) (by
        have := HQ.out
        rw [show k = (k - 1) + 1 from by omega]
        simpa using this)
      injection e1 with e2 e3 e4
      cases e2
      clear e3 e4
      dsimp only at d0 d1
      have HR := Lib.hid (show rb = decide ((ex, ey) = (X, YY)) from by rw [HRB.out, decide_eq_true hndl, Bool.true_and])
      have HR := Lib.hid (HR.out.trans (pt_eq ex ey X YY))
      obtain ⟨j, rfl⟩ : ∃ j, k = j + 1 := ⟨k - 1, by omega⟩
      rw [show (j + 1) * 2 = 2 + j * 2 from by omega] at d0 d1
      obtain ⟨z0, z1⟩ := cells2 hb.out
      have hw1 : IntKind.i64.wrap (((j + 1 : Nat) : Int) - 1) = (j : Int) := by rw [show ((j + 1 : Nat) : Int) - 1 = (j : Int) from by omega]; exact wrapi64 _ (by omega) (by omega)
      have hw2 : IntKind.i64.wrap (j : Int) = (j : Int) := wrapi64 _ (by omega) (by omega)
      have heq := corner_eq ex ey X YY
      have hja : (0 : Int) ≤ (j : Int) := by omega
      have hjb : (j : Int) < ((j + 1 : Nat) : Int) := by omega
      have hjc : (j : Int).toNat = j := by omega
      clear hndl hnd hm ho hlt hk
      go_wp2
      go_quiet (fail)
      go_wp2
      go_ret
      exact ⟨ret_bool HR.out.symm, hE.out.drewN _⟩
end Go.Proofs.YtppjnpempgpkaaaGreat
namespace Go.Proofs.YtppjnpempgpkaaaGreat
open Go.RowKit Go.Shelf
set_option linter.unusedVariables false
set_option linter.unusedSimpArgs false
attribute [local go_sem] Oper.semAt_some

theorem results_row_and {P : Program} {fn : Func} {p q : Tmp} {ty : TypeId} (h : fn.results = #[.cell p ty, .tmp q]) (tmps : Array Value) (w : World) (g : Nat) (t : TypeId) (cs : Array Value) (fr : Nat × Nat) (d : TypeDesc) (v : Value)
    (hp : tmps.getD p undef = .pointer (some ⟨g, 0, none⟩)) (hq : tmps.getD q undef = v) (hg : w.heap[g]? = some (.cells cs t fr))
    (hu : P.underlying ty = some d) (hd : (match d with | .struct _ | .array _ _ => true | _ => false) = true) (hi : (P.info? ty).map (·.size) = some cs.size) :
    (results fn tmps).run P w = .ok (.tuple #[.agg cs, v]) w := by
  have hp' : tmps[p]?.getD undef = .pointer (some ⟨g, 0, none⟩) := by simpa using hp
  have hq' : tmps[q]?.getD undef = v := by simpa using hq
  simp [results, h, hp', hq', asAddr, run_loadVar_row w g t ty cs fr d hg hu hd hi]
/-- Counts of cells in memory. -/
def rcl (R : Nat → Int) : Array Value := ((List.range 64).map fun c => Value.int .i64 (R c)).toArray
theorem rcl_size (R : Nat → Int) : (rcl R).size = 64 := by simp [rcl]
theorem rcl_at (R : Nat → Int) {c : Nat} (h : c < 64) : (rcl R)[c]? = some (.int .i64 (R c)) := by
  unfold rcl; rw [List.getElem?_toArray, List.getElem?_map, List.getElem?_range h]; rfl
theorem rcl_congr {R S : Nat → Int} (h : ∀ c, c < 64 → R c = S c) : rcl R = rcl S := by
  unfold rcl; congr 1; exact List.map_congr_left fun c hc => by rw [h c (List.mem_range.1 hc)]
theorem rcl_set (R : Nat → Int) (c : Nat) (v : Int) : (rcl R).setIfInBounds c (.int .i64 v) = rcl fun j => if j = c then v else R j := by
  unfold rcl
  rw [List.setIfInBounds_toArray]
  congr 1
  refine List.ext_getElem? fun j => ?_
  rw [List.getElem?_set]
  by_cases hj : c = j
  · subst hj
    rw [if_pos rfl]
    by_cases h64 : c < 64
    · rw [if_pos (by simpa using h64), List.getElem?_map, List.getElem?_range h64]
      simp
    · rw [if_neg (by simpa using h64), List.getElem?_map, List.getElem?_eq_none (by simpa using Nat.le_of_not_lt h64)]
      rfl
  · rw [if_neg hj, List.getElem?_map, List.getElem?_map]
    by_cases h64 : j < 64
    · rw [List.getElem?_range h64]
      simp [Ne.symm hj]
    · rw [List.getElem?_eq_none (by simpa using Nat.le_of_not_lt h64)]
      rfl
theorem rcl_blk {X : World} {b : Nat} {F : Nat → Int} {t : TypeId} {fr : Nat × Nat} (h : X.heap[b]? = some (.cells (rcl F) t fr)) (c : Nat) (v : Int) : (X.setCell ⟨b, c, none⟩ (.int .i64 v)).heap[b]? = some (.cells (rcl fun j => if j = c then v else F j) t fr) := by
  rw [← rcl_set]
  unfold rcl at h ⊢
  rw [List.setIfInBounds_toArray]
  exact set_blk h _
/-- The marks of the first counts that aren't nothing. -/
def hasR (F : Nat → Int) (j : Nat) : List Bool := (List.range 64).map fun c => decide (c < j) && decide (F c ≠ 0)
theorem hasR_len (F : Nat → Int) (j : Nat) : (hasR F j).length = 64 := by simp [hasR]
theorem hasR_zero (F : Nat → Int) : hasR F 0 = no64 := by
  unfold hasR no64
  rw [List.eq_replicate_iff]
  exact ⟨by simp, fun b hb => by simp at hb; exact hb.2⟩
theorem hasR_is (F : Nat → Int) {j c : Nat} (h : c < 64) : isR (hasR F j) c = (decide (c < j) && decide (F c ≠ 0)) := by
  unfold isR hasR
  rw [List.getD_eq_getElem?_getD, List.getElem?_map, List.getElem?_range h]
  rfl
theorem hasR_next (F : Nat → Int) {j : Nat} (h : j < 64) : (hasR F j).set j (decide (F j ≠ 0)) = hasR F (j + 1) := by
  refine List.ext_getElem? fun i => ?_
  rw [List.getElem?_set, hasR_len]
  by_cases hi : i < 64
  · have e : ∀ m, (hasR F m)[i]? = some (decide (i < m) && decide (F i ≠ 0)) := fun m => by
      unfold hasR
      rw [List.getElem?_map, List.getElem?_range hi]
      rfl
    rw [e, e]
    by_cases hj : j = i
    · subst hj
      simp [h]
    · rw [if_neg hj]
      congr 2
      exact decide_eq_decide.2 (by omega)
  · rw [if_neg (by omega), List.getElem?_eq_none (by rw [hasR_len]; omega), List.getElem?_eq_none (by rw [hasR_len]; omega)]
theorem any_next (p : Nat → Bool) (j : Nat) : (List.range (j + 1)).any p = ((List.range j).any p || p j) := by
  rw [List.range_succ, List.any_append]; simp
set_option maxRecDepth 100000 in
theorem alloc_round : Allocs 151 (rcl fun _ => 0) := by
  intro w
  simp [go_sem]
  rfl
theorem infoRound : (Tryz.prog.info? 151).map (·.size) = some 64 := by kernel_rfl
theorem index_round {C : Array Value} {j : Nat} {v : Int} (h : j < 64) (hC : C[j]? = some (.int .i64 v)) (w : World) : (Instr.index 151 (.agg C) (.int .i64 (j : Int))).run Tryz.prog w = .ok (.int .i64 v) w := by
  have h1 : (0 : Int) ≤ (j : Int) ∧ (j : Int) < ((64 : Nat) : Int) := by omega
  simp [Instr.index, run_underlying Tryz.underlying151, asIntOf, h1, part, go_sem, hC]
  intro hh; omega
/-- What the water needs of its corners and its counts. -/
structure Rnd (n : Nat) (l : List Pt) (R : Nat → Nat → Int) : Prop where
  len : l.length = n + 1
  small : n ≤ 200
  pos : 0 < n
  on : ∀ q ∈ l, onB q
  zero : ∀ c, R 0 c = 0
  step : ∀ (k : Nat) (q t : Pt), l[k]? = some q → l[k + 1]? = some t → ∀ c, c < 64 → R (k + 1) c = R k c + (if cy c = min q.2 t.2 ∧ q.1 ≤ cx c then q.2 - t.2 else 0)
  one : ∀ (k : Nat) (q t : Pt), l[k]? = some q → l[k + 1]? = some t → q.2 = t.2 ∨ (q.2 - t.2 = 1 ∨ q.2 - t.2 = -1)
  near : ∀ (k c : Nat), -(k : Int) ≤ R k c ∧ R k c ≤ k
/-- The count in the middle of a row. -/
def mid (R : Nat → Int) (row x0 x d : Int) (c : Nat) : Int := R c + (if cy c = row ∧ x0 ≤ cx c ∧ cx c < x then d else 0)
theorem mid_start (R : Nat → Int) (row x0 d : Int) : mid R row x0 x0 d = R := by
  funext c; unfold mid; rw [if_neg (by omega), Int.add_zero]
theorem mid_none (R : Nat → Int) (row x0 x : Int) : mid R row x0 x 0 = R := by
  funext c; unfold mid; split <;> omega
theorem mid_end (R : Nat → Int) (row x0 d : Int) (c : Nat) : mid R row x0 8 d c = R c + (if cy c = row ∧ x0 ≤ cx c then d else 0) := by
  unfold mid
  have : cx c < 8 := by unfold cx; omega
  simp [this]
theorem mid_next (R : Nat → Int) (row xn x0 : Nat) (d : Int) (hr : row < 8) (hx : xn < 8) (h0 : x0 ≤ xn) :
    (fun j => if j = row * 8 + xn then mid R row x0 xn d (row * 8 + xn) + d else mid R row x0 xn d j) = mid R row x0 ((xn : Int) + 1) d ∧ mid R row x0 xn d (row * 8 + xn) = R (row * 8 + xn) := by
  have e1 : cy (row * 8 + xn) = row := by unfold cy; omega
  have e2 : cx (row * 8 + xn) = xn := by unfold cx; omega
  constructor
  · funext j
    by_cases hj : j = row * 8 + xn
    · subst hj
      rw [if_pos rfl]
      unfold mid
      rw [if_neg (by omega), if_pos (by omega)]
      omega
    · rw [if_neg hj]
      unfold mid
      by_cases h : cy j = row ∧ (x0 : Int) ≤ cx j ∧ cx j < xn
      · rw [if_pos h, if_pos (by omega)]
      · rw [if_neg h, if_neg]
        intro ⟨h1, h2, h3⟩
        have h4 : cx j = xn := by omega
        have : j = row * 8 + xn := by unfold cx at h4; unfold cy at h1; omega
        exact hj this
  · unfold mid; rw [if_neg (by omega), Int.add_zero]
/-- What the counts are: those of N1. -/
def RW (p : Pt) (ks : List Nat) (k c : Nat) : Int := sm (rw8 c) ((sts p ks).take k)
theorem rw8_near (c : Nat) (s : Stk) : -1 ≤ rw8 c s ∧ rw8 c s ≤ 1 := by unfold rw8; split <;> (try split) <;> (try split) <;> omega
theorem sm_near (c : Nat) : ∀ l : List Stk, -(l.length : Int) ≤ sm (rw8 c) l ∧ sm (rw8 c) l ≤ l.length
  | [] => by simp [sm]
  | s :: l => by
    have h1 := sm_near c l
    have h2 := rw8_near c s
    rw [sm_cons, List.length_cons]
    omega
theorem sm_snoc (f : Stk → Int) (l : List Stk) (s : Stk) : sm f (l ++ [s]) = sm f l + f s := by unfold sm; simp
theorem rnd_of (p : Pt) (ks : List Nat) (hk : ∀ k ∈ ks, k < 4) (h0 : 0 < ks.length) (h2 : ks.length ≤ 200) (hb : ∀ q ∈ pts p ks, onB q) : Rnd ks.length (pts p ks) (RW p ks) := by
  have hst : ∀ (k : Nat) (q t : Pt), (pts p ks)[k]? = some q → (pts p ks)[k + 1]? = some t → ∃ j, j < 4 ∧ (sts p ks)[k]? = some (q, j) ∧ t = mv q j := fun k q t hq ht => by
    have hlt : k < ks.length := by
      have := (List.getElem?_eq_some_iff.1 ht).1
      rw [pts_len] at this
      omega
    obtain ⟨j, hj⟩ := get_some hlt
    have h1 := sts_at p ks k j hj
    rw [fin_take_at p ks k (by omega)] at hq
    rw [fin_take_at p ks (k + 1) (by omega), fin_take_succ p hj] at ht
    cases hq; cases ht
    exact ⟨j, hk j (List.mem_of_getElem? hj), h1, rfl⟩
  refine ⟨pts_len p ks, h2, h0, hb, fun c => rfl, fun k q t hq ht c hc => ?_, fun k q t hq ht => ?_, fun k c => ?_⟩
  · obtain ⟨j, hj, h1, rfl⟩ := hst k q t hq ht
    unfold RW
    rw [take_snoc h1, sm_snoc]
    congr 1
    unfold rw8
    obtain ⟨a, b⟩ := q
    dsimp only
    rcases four hj with rfl | rfl | rfl | rfl <;> simp [mv, mvx, mvy] <;> (repeat' split) <;> omega
  · obtain ⟨j, hj, h1, rfl⟩ := hst k q t hq ht
    obtain ⟨a, b⟩ := q
    rcases four hj with rfl | rfl | rfl | rfl <;> simp [mv, mvx, mvy] <;> omega
  · have := sm_near c ((sts p ks).take k)
    have h3 : ((sts p ks).take k).length ≤ k := by rw [List.length_take]; omega
    unfold RW
    omega
theorem RW_all {p : Pt} {ks : List Nat} (c : Nat) : RW p ks ks.length c = sm (rw8 c) (sts p ks) := by unfold RW; rw [List.take_of_length_le (by rw [sts_len]; omega)]
set_option maxRecDepth 100000 in
set_option maxHeartbeats 2000000 in
theorem water_c (X Y : Int) (s : ByteArray) (w : World) (hs : s.size ≤ 200) (n : Nat) (R : Nat → Nat → Int) (hR : Rnd n (ptsW (X, Y) (dirs s)) R) :
    Calls Tryz.prog 73 #[.agg #[.int .i64 X, .int .i64 Y, .string s]] w fun e w' => ∃ A rd, e = .returned (.tuple #[.agg A, .bool ((List.range 64).any fun c => decide (0 < R n c))]) ∧ IsRaft A 8 8 (.slice none 0 0) (.slice none 0 0) rd ∧ (∀ c, c < 64 → isR rd c = decide (R n c ≠ 0)) ∧ Ext w w' := by
  obtain ⟨l, hl⟩ : ∃ l, l = ptsW (X, Y) (dirs s) := ⟨_, rfl⟩
  have HC := Lib.hid (fun Z => corners_c X Y s Z hs)
  rw [← hl] at HC hR
  have HR := Lib.hid hR
  have hnl := hR.len
  have hn2 := hR.small
  have hn0 := hR.pos
  clear hl hR hs
  obtain ⟨w1, hw1⟩ : ∃ w1, w1 = ((w.alloc (.cells #[.int .i64 X, .int .i64 Y, .string s] 97)).alloc (.cells zR 78)).alloc (.cells (rcl fun _ => 0) 151) := ⟨_, rfl⟩
  have hE1 : Ext w w1 := by rw [hw1]; exact (((Ext.refl w).alloc _).alloc _).alloc _
  have B0 := Lib.hid (show w1.heap[w.heap.size]? = some (.cells #[.int .i64 X, .int .i64 Y, .string s] 97 (0, 0)) from by rw [hw1]; exact block_ext (((Ext.refl _).alloc _).alloc _) (heap_alloc_new w _))
  have B1 := Lib.hid (show w1.heap[w.heap.size + 1]? = some (.cells zR 78 (0, 0)) from by rw [hw1]; exact block_ext ((Ext.refl _).alloc _) (heap_alloc_at _ _ (by simp)))
  have B2 := Lib.hid (show w1.heap[w.heap.size + 2]? = some (.cells (rcl fun _ => 0) 151 (0, 0)) from by rw [hw1]; exact heap_alloc_at _ _ (by simp))
  have hsz : w.heap.size + 3 ≤ w1.heap.size := lt_of_blk B2.out
  have HE1 := Lib.hid hE1; have HW1 := Lib.hid hw1; have HSZ := Lib.hid hsz
  clear hE1 hw1 hsz
  obtain ⟨c0, c1, c2⟩ : w1.cell? ⟨w.heap.size, 0, none⟩ = some (.int .i64 X) ∧ w1.cell? ⟨w.heap.size, 1, none⟩ = some (.int .i64 Y) ∧ w1.cell? ⟨w.heap.size, 2, none⟩ = some (.string s) := ⟨cell_of_blk B0.out rfl, cell_of_blk B0.out rfl, cell_of_blk B0.out rfl⟩
  go_enter Tryz.func73, Tryz.ntmps73
  go_upto_region 2 with (first | (refine wp_allocRow rfl 78 rfl alloc_raft ?_) | (refine wp_allocRow rfl 151 rfl alloc_round ?_) | fail)
  rw [← HW1.out]
  go_upto_region 3 with (first | (go_at_call 105; refine Calls.mono (HC.out _) ?_; intro e w2 h1; obtain ⟨v, h1, ho, hE⟩ := h1; subst h1; have HO := Lib.hid ho; have HE2 := Lib.hid (HE1.out.trans hE); have C1 := Lib.hid (block_ext hE B1.out); have C2 := Lib.hid (block_ext hE B2.out); clear ho hE) | fail)
  clear HC HE1 HW1 B0 B1 B2 c0 c1 c2
  obtain ⟨av, cap, hv⟩ := HO.out.shape
  subst hv
  obtain ⟨p0, hp0⟩ : ∃ p, l[0]? = some p := get_some (by omega)
  obtain ⟨g, cap', e1, hc1, hc2, -, -⟩ := HO.out.at (i := 0) hp0
  injection e1 with e2 e3 e4
  subst e2 e4
  rw [hnl] at HO hc1 ⊢
  clear e3 p0 hp0
  have HO := Lib.hid (HO.out.weak HSZ.out)
  have HE2 := HE2
  have C2 := Lib.hid (show w2.heap[w.heap.size + 2]? = some (.cells (rcl (R 0)) 151 (0, 0)) from by rw [rcl_congr (S := fun _ => 0) fun c _ => HR.out.zero c]; exact C2.out)
  clear HSZ
  have hcap1 : cap ≠ 1 := by omega
  go_upto_region 4 with fail
  obtain ⟨rb, hrb⟩ : ∃ rb, rb = w.heap.size + 1 + 1 := ⟨_, rfl⟩
  rw [← hrb]
  have HRB := Lib.hid hrb
  rw [show w.heap.size + 2 = rb from hrb.symm] at C2
  clear hrb
  go_wp2
  go_loopw [20] (fun i wr => ∃ k : Nat, k ≤ n ∧ i = .int .i64 k ∧ Hid (wr.heap[rb]? = some (.cells (rcl (R k)) 151 (0, 0))) ∧ Hid (wr.heap[w.heap.size + 1]? = some (.cells zR 78 (0, 0))) ∧ Hid (OwnC (w.heap.size + 3) wr (.slice (some ⟨g, 0, none⟩) (n + 1) cap) l) ∧ Hid (Ext w wr)) (fun i wr => n - (intOf i).toNat)
  case atStart => exact ⟨0, Nat.zero_le _, rfl, C2, C1, HO, HE2⟩
  case round =>
    clear C2 C1 HO HE2
    obtain ⟨k, hk, rfl, hr, hz, ho, hE⟩ := hrel
    by_cases hlt : k < n
    · obtain ⟨q, hq⟩ : ∃ p, l[k]? = some p := get_some (by rw [hnl]; omega)
      obtain ⟨p, hp⟩ : ∃ p, l[k + 1]? = some p := get_some (by rw [hnl]; omega)
      have hoq := HR.out.on q (List.mem_of_getElem? hq)
      have hop := HR.out.on p (List.mem_of_getElem? hp)
      have HST := Lib.hid (HR.out.step k q p hq hp)
      have hone := HR.out.one k q p hq hp
      have HNR := Lib.hid (HR.out.near k)
      obtain ⟨g', cap', e1, -, -, d2, d3⟩ := ho.out.at (i := k + 1) (p := p) hp
      injection e1 with e2 e3 e4
      cases e2
      clear e3 e4
      obtain ⟨g', cap', e1, -, -, d0, d1⟩ := ho.out.at (i := k) (p := q) hq
      injection e1 with e2 e3 e4
      cases e2
      clear e3 e4
      rw [show (k + 1) * 2 = 2 + k * 2 from by omega] at d2 d3
      obtain ⟨fx', fy'⟩ := q
      obtain ⟨tx, ty'⟩ := p
      obtain ⟨⟨ha1, ha2⟩, ha3, ha4⟩ := hoq
      obtain ⟨⟨ha5, ha6⟩, ha7, ha8⟩ := hop
      dsimp only at ha1 ha2 ha3 ha4 ha5 ha6 ha7 ha8 d0 d1 d2 d3 hone HST
      obtain ⟨fx, rfl⟩ : ∃ a : Nat, fx' = a := ⟨fx'.toNat, by omega⟩
      obtain ⟨fy, rfl⟩ : ∃ a : Nat, fy' = a := ⟨fy'.toNat, by omega⟩
      obtain ⟨ty, rfl⟩ : ∃ a : Nat, ty' = a := ⟨ty'.toNat, by omega⟩
      obtain ⟨W4, hW4⟩ : ∃ W4, W4 = wr.alloc (.cells #[.int .i64 tx, .int .i64 (ty : Int)] 146) := ⟨_, rfl⟩
      have hE4 : Ext wr W4 := by rw [hW4]; exact (Ext.refl _).alloc _
      have b7 : W4.heap[wr.heap.size]? = some (.cells #[.int .i64 tx, .int .i64 (ty : Int)] 146 (0, 0)) := by rw [hW4]; exact heap_alloc_new wr _
      have hs4 : W4.heap.size = wr.heap.size + 1 := by rw [hW4]; simp
      obtain ⟨W5, hW5⟩ : ∃ W5, W5 = W4.alloc (.cells #[.int .i64 (fx : Int), .int .i64 (fy : Int)] 146) := ⟨_, rfl⟩
      have hE5 : Ext W4 W5 := by rw [hW5]; exact (Ext.refl _).alloc _
      have b8 : W5.heap[W4.heap.size]? = some (.cells #[.int .i64 (fx : Int), .int .i64 (fy : Int)] 146 (0, 0)) := by rw [hW5]; exact heap_alloc_new _ _
      have B7 := Lib.hid (block_ext hE5 b7); have B8 := Lib.hid b8; have H45 := Lib.hid (show wr.heap.size < W4.heap.size from by omega)
      have HE4 := Lib.hid hE4; have HE5 := Lib.hid hE5; have HW5 := Lib.hid hW5
      clear hs4 b7 b8 hW5 hE5 hE4
      have hka : (0 : Int) ≤ (k : Int) := by omega
      have hkb : (k : Int) < (n : Int) := by omega
      have hkc : (k : Int) < ((n + 1 : Nat) : Int) := by omega
      go_upto_region 6 with fail
      rw [← hW4]
      clear hW4 d2 d3
      replace d0 := cell_ext HE4.out d0
      replace d1 := cell_ext HE4.out d1
      go_upto_region 7 with fail
      rw [← HW5.out]
      have hE5 := HE4.out.trans HE5.out
      have HR5 := Lib.hid (block_ext hE5 hr.out); have HZ5 := Lib.hid (block_ext hE5 hz.out); have HO5 := Lib.hid (ho.out.ext hE5); have HE5 := Lib.hid (hE.out.trans hE5)
      have HWS := Lib.hid (show rb < wr.heap.size from lt_of_blk hr.out)
      clear hE5 d0 d1 hr hz ho hE HW5 HE4
      obtain ⟨tb, htb⟩ : ∃ tb, tb = wr.heap.size := ⟨_, rfl⟩
      obtain ⟨fb, hfb⟩ : ∃ fb, fb = W4.heap.size := ⟨_, rfl⟩
      rw [← htb] at B7 H45 HWS ⊢
      have HTB := Lib.hid (show rb < tb from HWS.out)
      rw [← hfb] at B8 H45 ⊢
      clear htb hfb
      obtain ⟨z0, z1⟩ := cells2 B7.out
      obtain ⟨z2, z3⟩ := cells2 B8.out
      have hlow : (if ty < fy then (ty : Int) else (fy : Int)) = min (fy : Int) ty := by split <;> omega
      obtain ⟨row, hrow⟩ : ∃ row : Nat, min (fy : Int) ty = (row : Int) := ⟨min fy ty, by omega⟩
      rw [hrow] at hlow
      have HST := Lib.hid (show ∀ c, c < 64 → R (k + 1) c = mid (R k) row fx 8 ((fy : Int) - ty) c from fun c hc => by rw [mid_end, HST.out c hc, hrow])
      have HROW := Lib.hid (show row < 8 ∨ fy = ty from by omega)
      have HFX := Lib.hid ha2; have HON := Lib.hid hone
      clear hrow hone
      go_upto_region 8 with fail
      have HKA := Lib.hid hka; have HKB := Lib.hid hkb
      clear hlow ha1 ha3 ha4 ha5 ha6 ha7 ha8 hkc hka hkb
      go_upto_region 9 with fail
      go_wp2
      go_loopw [10] (fun x wz => ∃ xn : Nat, fx ≤ xn ∧ xn ≤ 8 ∧ x = .int .i64 xn ∧ Hid (wz.heap[rb]? = some (.cells (rcl (mid (R k) row fx xn ((fy : Int) - ty))) 151 (0, 0))) ∧ Hid (wz.heap[tb]? = some (.cells #[.int .i64 tx, .int .i64 (ty : Int)] 146 (0, 0))) ∧ Hid (wz.heap[fb]? = some (.cells #[.int .i64 (fx : Int), .int .i64 (fy : Int)] 146 (0, 0))) ∧ Hid (wz.heap[w.heap.size + 1]? = some (.cells zR 78 (0, 0))) ∧ Hid (OwnC (w.heap.size + 3) wz (.slice (some ⟨g, 0, none⟩) (n + 1) cap) l) ∧ Hid (Ext w wz)) (fun x wz => 8 - (intOf x).toNat)
      case atStart => exact ⟨fx, Nat.le_refl _, by have := HFX.out; omega, rfl, Lib.hid (by rw [mid_start]; exact HR5.out), B7, B8, HZ5, HO5, HE5⟩
      case round =>
        clear HR5 B7 B8 HZ5 HO5 HE5 z0 z1 z2 z3
        obtain ⟨xn, hx0, hx8, rfl, hr, b7, b8, hz, ho, hE⟩ := hrel
        obtain ⟨z0, z1⟩ := cells2 b7.out
        obtain ⟨z2, z3⟩ := cells2 b8.out
        by_cases hlx : xn < 8
        · by_cases hfy : fy = ty
          · subst hfy
            go_wp2
            go_roundw
            case rel => exact ⟨xn + 1, by omega, by omega, by go_num, Lib.hid (by have := hr.out; rw [Int.sub_self, mid_none] at this ⊢; exact this), b7, b8, hz, ho, hE⟩
            case measure => simp [intOf]; omega
          · have hrw : row < 8 := by have := HROW.out; omega
            have hon : (fy : Int) - ty = 1 ∨ (fy : Int) - ty = -1 := by have := HON.out; omega
            obtain ⟨d, hd⟩ : ∃ d : Int, d = (fy : Int) - ty := ⟨_, rfl⟩
            rw [← hd] at hon hr
            obtain ⟨c, hc⟩ : ∃ c, c = row * 8 + xn := ⟨_, rfl⟩
            obtain ⟨hm1, hm2⟩ := mid_next (R k) row xn fx d hrw hlx hx0
            rw [← hc] at hm1 hm2
            have hnr := HNR.out c
            have HFY := Lib.hid hfy
            obtain ⟨v, hv⟩ : ∃ v, v = R k c := ⟨_, rfl⟩
            rw [← hv] at hnr hm2
            rw [hm2] at hm1
            obtain ⟨v2, hv2⟩ : ∃ v2, v2 = v + d := ⟨_, rfl⟩
            rw [← hv2] at hm1
            have hc64 : c < 64 := by omega
            obtain ⟨C, hC⟩ : ∃ C, C = rcl (mid (R k) row fx xn d) := ⟨_, rfl⟩
            have HCV := Lib.hid (show C[c]? = some (.int .i64 v) from by rw [hC, rcl_at _ hc64, hm2])
            have hr2 : wr.heap[rb]? = some (.cells C 151 (0, 0)) := by rw [hC]; exact hr.out
            have HNX := Lib.hid hm1; have HCC := Lib.hid hC; have HR2 := Lib.hid hr2
            have hw0 : IntKind.i64.wrap ((row : Int) * 8 + (xn : Int)) = (c : Int) := by rw [show (row : Int) * 8 + (xn : Int) = (c : Int) from by omega]; exact wrapi64 _ (by omega) (by omega)
            have hw1 : IntKind.i64.wrap ((fy : Int) - (ty : Int)) = d := by rw [← hd]; exact wrapi64 _ (by omega) (by omega)
            have hw2 : IntKind.i64.wrap (v + d) = v2 := by rw [← hv2]; exact wrapi64 _ (by omega) (by omega)
            have h1 : (0 : Int) ≤ (c : Int) := by omega
            have h2 : (c : Int) < 64 := by omega
            have h3 : (c : Int).toNat = c := by omega
            have hne : decide ((fy : Int) = (ty : Int)) = false := by rw [decide_eq_false_iff_not]; omega
            have HD := Lib.hid hd; have HX8 := Lib.hid hx8; have HLX := Lib.hid hlx
            clear hd hc hm1 hm2 hnr hv hv2 hC hr2 hr hrw hon hc64 hx8
            go_upto_region 12 with fail
            clear z0 z1 z2 z3 hne hfy
            refine wp_orderL (fun Y : World => Y.heap[rb]? = some (.cells C 151 (0, 0)) ∧ Y.heap[tb]? = some (.cells #[.int .i64 tx, .int .i64 (ty : Int)] 146 (0, 0)) ∧ Y.heap[fb]? = some (.cells #[.int .i64 (fx : Int), .int .i64 (fy : Int)] 146 (0, 0))) [0, 1, 2, 3, 4, 5, 6, 7, 8, 9, 10, 11, 12] 12 (by kernel_rfl) (by kernel_rfl) (by kernel_rfl) (by exact ⟨HR2.out, b7.out, b8.out⟩) (fun hHeld => ?_)
            simp only [opsIn, List.filterMap_cons, List.filterMap_nil, List.getElem?_toArray, List.getElem?_cons_succ, List.getElem?_cons_zero]
            refine' textL_chunk 12 (by kernel_rfl) hHeld ?ck1 ?cr1
            case ck1 =>
              intro W hSw
              have hSW := hSw
              try dsimp only at hSW
              clear hSw
              obtain ⟨s1, s2, s3⟩ := hSW
              have r0 := cell_of_blk s1 HCV.out
              obtain ⟨q0, q1⟩ := cells2 s2
              obtain ⟨q2, q3⟩ := cells2 s3
              clear s1 s2 s3
              simp only [List.take_succ_cons, List.take_zero, List.drop_succ_cons, List.drop_zero]
              repeat (go_big_quiet_step (fail))
              exact wpQuiet_nil rfl
            simp only [List.take_succ_cons, List.take_zero, List.drop_succ_cons, List.drop_zero]
            refine textL_lastW (by rfl) (by rfl) (fun K hK => ?_)
            have r0 := cell_of_blk hHeld.1 HCV.out
            have f0 := frozen_of_blk hHeld.1 c
            clear hw0 hw1 hw2
            go_simp
            refine hK.out _ _ ?_
            clear hK K
            obtain ⟨W9, hW9⟩ : ∃ W9, W9 = wr.drew.setCell ⟨rb, c, none⟩ (.int .i64 v2) := ⟨_, rfl⟩
            have hg9 : wr.drew.grownBy W9 (some rb) := by rw [hW9]; exact grown_set _ _ _ _
            have h9 : W9.heap[rb]? = some (.cells (rcl (mid (R k) row fx ((xn + 1 : Nat) : Int) ((fy : Int) - ty))) 151 (0, 0)) := by
              have hr2 := HR2.out
              rw [HCC.out] at hr2
              rw [hW9, Int.natCast_succ, ← HD.out, ← HNX.out]
              exact rcl_blk (X := wr.drew) hr2 c v2
            have o9 : ∀ {q : Nat} {o : Obj}, q ≠ rb → wr.heap[q]? = some o → W9.heap[q]? = some o := fun {q o} hq ho => (other_blk hg9 hq (lt_of_blk ho)).trans ho
            have hrbw := lt_of_blk HR2.out
            have H9 := Lib.hid h9
            have B79 := Lib.hid (o9 (by have := HWS.out; have := HTB.out; omega) b7.out)
            have B89 := Lib.hid (o9 (by have := HWS.out; have := HTB.out; have := H45.out; omega) b8.out)
            have Z9 := Lib.hid (o9 (by have := HRB.out; omega) hz.out)
            have O9 := Lib.hid (OwnC.grown (w := wr.drew) ho.out hg9 (by have := HRB.out; omega))
            have E9 := Lib.hid (show Ext w W9 from grown_any (w1 := wr.drew) hE.out.drew hg9 (fun g e => by cases e; have := HRB.out; omega))
            clear hg9 h9 o9 r0 f0 hHeld
            have hX9 : (wr.setCell ⟨rb, c, none⟩ (.int .i64 v2)).drew = W9 := hW9.symm
            rw [hX9]
            clear hX9 hW9
            go_wp2
            go_roundw
            case rel => exact ⟨xn + 1, by omega, by have := HLX.out; omega, by go_num, H9, B79, B89, Z9, O9, E9⟩
            case measure => have := HLX.out; simp [intOf]; omega
        · obtain rfl : xn = 8 := by omega
          have HR8 := Lib.hid (show wr.heap[rb]? = some (.cells (rcl (R (k + 1))) 151 (0, 0)) from by rw [rcl_congr HST.out]; exact hr.out)
          clear z0 z1 z2 z3 hr hx0 hx8
          have hka := HKA.out; have hkb := HKB.out
          go_wp2
          go_roundw
          case rel => exact ⟨k + 1, by omega, by go_num, HR8, hz, ho, hE⟩
          case measure => simp [intOf]; omega
    · obtain rfl : k = n := by omega
      obtain ⟨A0, hA0⟩ : ∃ A0, A0 = (rc 8 8 (.slice none 0 0) (.slice none 0 0) no64).toArray := ⟨_, rfl⟩
      have hI0 : IsRaft A0 8 8 (.slice none 0 0) (.slice none 0 0) no64 := ⟨hA0, rfl⟩
      have HI := Lib.hid hI0.info; have HON := Lib.hid hI0.one; have HS := Lib.hid (show zR.size = A0.size from by rw [hI0.size]; rfl)
      have HA0 := Lib.hid hA0
      clear hA0 hI0
      obtain ⟨C, hC⟩ : ∃ C, C = rcl (R k) := ⟨_, rfl⟩
      have HCV := Lib.hid (show ∀ c, c < 64 → C[c]? = some (.int .i64 (R k c)) from fun c hc => by rw [hC]; exact rcl_at _ hc)
      have HRC := Lib.hid (show wr.heap[rb]? = some (.cells C 151 (0, 0)) from by rw [hC]; exact hr.out)
      have HCI := Lib.hid (show (Tryz.prog.info? 151).map (·.size) = some C.size from by rw [hC, rcl_size]; exact infoRound)
      have HCS := Lib.hid (show C.size = 64 from by rw [hC, rcl_size])
      clear hC hr ho hlt hk HO hc1
      go_wp2_with (first
        | (refine wpList_build rfl 78 _ rfl (by kernel_rfl) ?_; rw [show (Tryz.prog.built 78 (Array.map _ _).toList).getD #[] = A0 from HA0.out ▸ by kernel_rfl])
        | (refine wp_newRow rfl rfl 78 11 (.tmp 61) rfl rfl rfl alloc_raft A0 HI.out HS.out HON.out rfl rfl ?_; intro W2 hb2 hE2 hz2; have HB2 := Lib.hid hb2; have HE2 := Lib.hid hE2; clear hb2 hE2 hz2)
        | (refine wpList_load_row rfl 151 _ rfl _ rfl _ _ _ _ (block_ext HE2.out HRC.out) Tryz.underlying151 rfl HCI.out ?_)
        | fail)
      have HR0 := Lib.hid (show RaftB W2 wr.heap.size 8 8 (.slice none 0 0) (.slice none 0 0) (hasR (R k) 0) from by have h := HB2.out; rw [HA0.out] at h; rw [hasR_zero]; exact h)
      have HZ0 := Lib.hid (block_ext HE2.out hz.out)
      have HX0 := Lib.hid (hE.out.trans HE2.out)
      have HWS := Lib.hid (show w.heap.size + 1 < wr.heap.size from lt_of_blk hz.out)
      clear HB2 HE2 hz hE HRC HCI
      obtain ⟨ab, hab⟩ : ∃ ab, ab = wr.heap.size := ⟨_, rfl⟩
      rw [← hab] at HR0 HWS ⊢
      clear hab HA0 HI HON HS
      go_loopw [12, 63] (fun b i wr => ∃ j : Nat, j ≤ 64 ∧ i = .int .i64 j ∧ b = .bool ((List.range j).any fun c => decide (0 < R k c)) ∧ Hid (RaftB wr ab 8 8 (.slice none 0 0) (.slice none 0 0) (hasR (R k) j)) ∧ Hid (wr.heap[w.heap.size + 1]? = some (.cells zR 78 (0, 0))) ∧ Hid (Ext w wr)) (fun b i wr => 64 - (intOf i).toNat)
      case atStart => exact ⟨0, Nat.zero_le _, rfl, rfl, HR0, HZ0, HX0⟩
      case round =>
        clear HR0 HZ0 HX0
        obtain ⟨j, hj, rfl, rfl, hr, hz, hE⟩ := hrel
        by_cases hlt : j < 64
        · have hcv := HCV.out j hlt
          have hcs := HCS.out
          have hcl := hr.out.cell (hasR_len _ _) hlt
          have hfr := frozen_of_blk hr.out (4 + j)
          have h1 : (0 : Int) ≤ (j : Int) := by omega
          have h2 : (j : Int) < 64 := by omega
          have h3 : (j : Int).toNat = j := by omega
          have HNX := Lib.hid (hasR_next (R k) hlt)
          generalize isR (hasR (R k) j) j = b0 at *
          obtain ⟨v, hv⟩ : ∃ v, v = R k j := ⟨_, rfl⟩
          rw [← hv] at hcv HNX
          have HAN := Lib.hid (show (List.range (j + 1)).any (fun c => decide (0 < R k c)) = ((List.range j).any (fun c => decide (0 < R k c)) || decide (0 < v)) from by rw [hv, any_next])
          have hix := index_round hlt hcv
          clear hv
          have hb9 : RaftB (wr.setCell ⟨ab, 4 + j, none⟩ (.bool (v != 0))) ab 8 8 (.slice none 0 0) (.slice none 0 0) (hasR (R k) (j + 1)) := by
            rw [← HNX.out, show decide (v ≠ 0) = (v != 0) from by by_cases h : v = 0 <;> simp [h]]
            exact hr.out.set j _
          have HB9 := Lib.hid hb9
          have HZ9 := Lib.hid ((other_blk (grown_set wr ab (4 + j) (.bool (v != 0))) (by have := HWS.out; omega) (lt_of_blk hz.out)).trans hz.out)
          have HE9 := Lib.hid (show Ext w (wr.setCell ⟨ab, 4 + j, none⟩ (.bool (v != 0))) from hE.out.set (by have := HWS.out; omega) _ _)
          clear hb9 hr
          generalize hob : (List.range j).any (fun c => decide (0 < R k c)) = ob at *
          clear hob
          cases ob
          · go_wp2
            go_roundw
            case rel => exact ⟨j + 1, by omega, by go_num, by rw [HAN.out, Bool.false_or], HB9, HZ9, HE9⟩
            case measure => simp [intOf]; omega
          · go_wp2
            go_roundw
            case rel => exact ⟨j + 1, by omega, by go_num, by rw [HAN.out, Bool.true_or], HB9, HZ9, HE9⟩
            case measure => simp [intOf]; omega
        · obtain rfl : j = 64 := by omega
          obtain ⟨A, hA⟩ : ∃ A, A = (rc 8 8 (.slice none 0 0) (.slice none 0 0) (hasR (R k) 64)).toArray := ⟨_, rfl⟩
          have hIA : IsRaft A 8 8 (.slice none 0 0) (.slice none 0 0) (hasR (R k) 64) := ⟨hA, hasR_len _ _⟩
          have HIA := Lib.hid hIA; have HIN := Lib.hid hIA.info; have HON := Lib.hid hIA.one; have HSZ := Lib.hid (show zR.size = A.size from by rw [hIA.size]; rfl)
          have HRA := Lib.hid (show wr.heap[ab]? = some (.cells A 78 (0, 0)) from by rw [hA]; exact hr.out)
          have HIS := Lib.hid (show ∀ c, c < 64 → isR (hasR (R k) 64) c = decide (R k c ≠ 0) from fun c hc => by rw [hasR_is _ hc, decide_eq_true hc, Bool.true_and])
          generalize hob : (List.range 64).any (fun c => decide (0 < R k c)) = ob at *
          have HOB := Lib.hid hob
          clear hr hA hIA hob
          generalize hasR (R k) 64 = rd at *
          go_wp2_with (first | (refine wpList_load_row rfl 78 _ rfl _ rfl _ _ _ _ HRA.out Tryz.underlying78 rfl HIN.out ?_) | (refine wpList_store_row rfl 78 _ _ rfl (w.heap.size + 1) A rfl rfl _ _ hz.out HIN.out HSZ.out HON.out ?_) | fail)
          refine bodyPost_ret (v := .tuple #[.agg A, .bool ob]) ?_ rfl ⟨A, rd, by rw [HOB.out], HIA.out, HIS.out, setRow_ext hE.out (by omega) _⟩
          exact results_row_and (P := Tryz.prog) (fn := Tryz.f73) Tryz.results73 _ _ _ _ _ _ _ _ rfl rfl (setRow_heap' _ _ _ _ _ hz.out) Tryz.underlying78 rfl HIN.out
end Go.Proofs.YtppjnpempgpkaaaGreat
