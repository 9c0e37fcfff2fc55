/- The search for a way, over sides that are free, by its contract. -/
import Derived.Test.YtppjnpempgpkaaaGreatE0
import Derived.WalkMore
import Derived.Deep.LoopGhost
import Derived.Deep.Cut
import Derived.Sort.CutIn
namespace Go.Proofs.YtppjnpempgpkaaaGreat
open Go.RowKit Go.Shelf
set_option linter.unusedVariables false
set_option linter.unusedSimpArgs false
attribute [local go_sem] Oper.semAt_some
def Fr93 (b0 bf i : Nat) (ds : List Deferred) (A : Act) : Prop := ∃ f : Nat → Value, A = { tmps := #[f 0, f 1, f 2, .pointer (some ⟨b0, 0, none⟩), .pointer (some ⟨b0 + 1, 0, none⟩), f 5, .pointer (some ⟨b0 + 1 + 1, 0, none⟩), f 7, .pointer (some ⟨b0 + 3, 0, none⟩), f 9, f 10, .pointer (some ⟨bf, 0, none⟩), .int .i64 (i : Int), f 13, f 14, f 15, f 16, f 17, f 18, f 19, f 20, f 21, f 22, f 23, f 24, f 25, f 26, f 27, f 28, f 29, f 30, f 31, f 32, f 33, f 34, f 35, f 36, f 37, f 38, f 39, f 40, f 41, f 42, f 43, f 44, f 45, f 46, f 47, f 48, f 49, f 50, f 51, f 52, f 53, f 54, f 55, f 56, f 57, f 58, f 59, f 60, f 61, f 62, f 63, f 64, f 65, f 66, f 67, f 68, f 69, f 70, f 71, f 72, f 73, f 74, f 75, f 76, f 77, f 78, f 79, f 80, f 81, f 82, f 83, f 84, f 85, f 86, f 87, f 88, f 89, f 90, f 91, f 92, f 93, f 94, f 95, f 96, f 97, f 98, f 99, f 100, f 101], defers := ds }
set_option maxRecDepth 100000 in
theorem Fr93.mk {b0 bf i : Nat} {ds : List Deferred} {x0 x1 x2 x5 x7 x9 x10 x13 x14 x15 x16 x17 x18 x19 x20 x21 x22 x23 x24 x25 x26 x27 x28 x29 x30 x31 x32 x33 x34 x35 x36 x37 x38 x39 x40 x41 x42 x43 x44 x45 x46 x47 x48 x49 x50 x51 x52 x53 x54 x55 x56 x57 x58 x59 x60 x61 x62 x63 x64 x65 x66 x67 x68 x69 x70 x71 x72 x73 x74 x75 x76 x77 x78 x79 x80 x81 x82 x83 x84 x85 x86 x87 x88 x89 x90 x91 x92 x93 x94 x95 x96 x97 x98 x99 x100 x101 : Value} : Fr93 b0 bf i ds { tmps := #[x0, x1, x2, .pointer (some ⟨b0, 0, none⟩), .pointer (some ⟨b0 + 1, 0, none⟩), x5, .pointer (some ⟨b0 + 1 + 1, 0, none⟩), x7, .pointer (some ⟨b0 + 3, 0, none⟩), x9, x10, .pointer (some ⟨bf, 0, none⟩), .int .i64 (i : Int), x13, x14, x15, x16, x17, x18, x19, x20, x21, x22, x23, x24, x25, x26, x27, x28, x29, x30, x31, x32, x33, x34, x35, x36, x37, x38, x39, x40, x41, x42, x43, x44, x45, x46, x47, x48, x49, x50, x51, x52, x53, x54, x55, x56, x57, x58, x59, x60, x61, x62, x63, x64, x65, x66, x67, x68, x69, x70, x71, x72, x73, x74, x75, x76, x77, x78, x79, x80, x81, x82, x83, x84, x85, x86, x87, x88, x89, x90, x91, x92, x93, x94, x95, x96, x97, x98, x99, x100, x101], defers := ds } := ⟨fun j => (#[x0, x1, x2, undef, undef, x5, undef, x7, undef, x9, x10, undef, undef, x13, x14, x15, x16, x17, x18, x19, x20, x21, x22, x23, x24, x25, x26, x27, x28, x29, x30, x31, x32, x33, x34, x35, x36, x37, x38, x39, x40, x41, x42, x43, x44, x45, x46, x47, x48, x49, x50, x51, x52, x53, x54, x55, x56, x57, x58, x59, x60, x61, x62, x63, x64, x65, x66, x67, x68, x69, x70, x71, x72, x73, x74, x75, x76, x77, x78, x79, x80, x81, x82, x83, x84, x85, x86, x87, x88, x89, x90, x91, x92, x93, x94, x95, x96, x97, x98, x99, x100, x101] : Array Value).getD j undef, rfl⟩
set_option maxRecDepth 100000 in
set_option maxHeartbeats 1000000 in
theorem searchFree (W H nw cw nk ck : Nat) (aw ak : Option Addr) (bn mo : Nat) (vsl : Value) (wn kn src : List Nat) (hW : 1 ≤ W ∧ W ≤ 8) (hH : 1 ≤ H ∧ H ≤ 8) (G : Grid) (hGn : G.n = W * H) (hGb : G.bh = bhP W H) (hpd : Pond G 64 wn (memL kn)) (lt : Sd → Bool) (rd0 : List Bool) (w : World)
    (hnet : NetB w bn W H (.slice aw nw cw) (.slice ak nk ck) mo rd0) (hkr : ∀ Y, KeepT [bn] w.heap.size 0 w Y → Reads Y (.slice ak nk ck) (natI kn)) (hsr : ∀ Y, KeepT [bn] w.heap.size 0 w Y → Reads Y vsl (natI src)) (hsrc : ∀ c ∈ src, c < W * H) (hnd : src.Nodup)
    (hlet : ∀ (Y : World) (s : Sd), s.1 < 64 → s.2 < 4 → KeepT [bn] w.heap.size 0 w Y → Y.cell? ⟨bn, 4, none⟩ = some (.map (some mo)) → Calls Tryz.prog 82 #[.pointer (some ⟨bn, 0, none⟩), .agg #[.int .i64 (s.1 : Int), .int .i64 (s.2 : Int)]] Y fun e w' => e = .returned (.bool (lt s)) ∧ Ext Y w') :
    Calls Tryz.prog 81 #[.pointer (some ⟨bn, 0, none⟩), .func (.func 82) #[.pointer (some ⟨bn, 0, none⟩)] #[], vsl] w fun e w' => SearchPost G (memL kn) lt src bn W H (.slice aw nw cw) (.slice ak nk ck) mo w e w' := by
  obtain ⟨R0, hR0⟩ : ∃ R0, R0 = find1 G 64 (memL kn) lt src := ⟨_, rfl⟩
  have hn64 : W * H ≤ 64 := Nat.mul_le_mul hW.2 hH.2
  have hst : SI G (memL kn) lt src 64 0 (start 64 src) := start_is (fun c hc => Nat.lt_of_lt_of_le (hsrc c hc) hn64) hnd
  have hs64 : src.length ≤ 64 := nodup_le 64 hnd (fun x hx => Nat.lt_of_lt_of_le (hsrc x hx) hn64)
  have HR0 := Lib.hid hR0; have HST := Lib.hid hst
  obtain ⟨hls, asr, caps, rfl⟩ := (hsr w (KeepT.refl _ _ _ _)).shape
  rw [natI_len] at hls hsr ⊢
  have hls2 : src.length ≤ 9223372036854775807 := by omega
  have HKR := Lib.hid hkr; have HSR := Lib.hid hsr; have HSRC := Lib.hid hsrc; have HLET := Lib.hid hlet; have HGN := Lib.hid hGn; have HGB := Lib.hid hGb
  have HPD := Lib.hid hpd
  obtain ⟨w1, hw1⟩ : ∃ w1, w1 = ((w.alloc (.cells #[.pointer (some ⟨bn, 0, none⟩)] 79)).alloc (.cells #[.func (.func 82) #[.pointer (some ⟨bn, 0, none⟩)] #[]] 118)).alloc (.cells #[.slice none 0 0, .int .i64 0] 60) := ⟨_, rfl⟩
  have hE1 : Ext w w1 := by rw [hw1]; exact (((Ext.refl w).alloc _).alloc _).alloc _
  have hz1 : w1.heap.size = w.heap.size + 3 := by rw [hw1]; simp
  have b0 : w1.heap[w.heap.size]? = some (.cells #[.pointer (some ⟨bn, 0, none⟩)] 79 (0, 0)) := by rw [hw1]; exact block_ext (((Ext.refl _).alloc _).alloc _) (heap_alloc_new w _)
  have b1 : w1.heap[w.heap.size + 1]? = some (.cells #[.func (.func 82) #[.pointer (some ⟨bn, 0, none⟩)] #[]] 118 (0, 0)) := by rw [hw1]; exact block_ext ((Ext.refl _).alloc _) (heap_alloc_at (w.alloc _) _ (by simp))
  have b2 : w1.heap[w.heap.size + 1 + 1]? = some (.cells #[.slice none 0 0, .int .i64 0] 60 (0, 0)) := by rw [hw1]; exact heap_alloc_at ((w.alloc _).alloc _) _ (by simp)
  obtain ⟨w2, hcl, hnet2, hg2, hzc⟩ := (hnet.ext hE1).cleared
  have hbn := hnet.lt
  have hk2 : KeepT [bn] w.heap.size 0 w w2 := KeepT.grown_in (KeepT.ext hE1) hg2 (by simp)
  have c0 := other_blk hg2 (g := w.heap.size) (by omega) (lt_of_blk b0)
  have c1 := other_blk hg2 (g := w.heap.size + 1) (by omega) (lt_of_blk b1)
  have c2 := other_blk hg2 (g := w.heap.size + 1 + 1) (by omega) (lt_of_blk b2)
  have hz2 : w2.heap.size = w.heap.size + 3 := by rw [← hz1]; exact hzc
  obtain ⟨w3, hw3⟩ : ∃ w3, w3 = w2.alloc (.cells #[.slice none 0 0] 36) := ⟨_, rfl⟩
  have hE3 : Ext w2 w3 := by rw [hw3]; exact (Ext.refl w2).alloc _
  have hz3 : w3.heap.size = w.heap.size + 4 := by rw [hw3]; simp; omega
  have B8 := Lib.hid (show w3.heap[w.heap.size + 3]? = some (.cells #[.slice none 0 0] 36 (0, 0)) from by rw [hw3]; exact heap_alloc_at w2 _ hz2.symm)
  have B0 := Lib.hid (block_ext hE3 (c0.trans b0)); have B1 := Lib.hid (block_ext hE3 (c1.trans b1)); have B2 := Lib.hid (block_ext hE3 (c2.trans b2))
  have HN3 := Lib.hid (hnet2.ext hE3); have HK3 := Lib.hid (hk2.trans (KeepT.ext hE3))
  have HW3 := Lib.hid hw3; have HZ3 := Lib.hid hz3; have HZ2 := Lib.hid hz2
  rw [hw1] at hcl
  clear hw1 hE1 hz1 hzc b0 b1 b2 hnet2 hg2 hk2 c0 c1 c2 hw3 hE3 hz3 hnet hkr hsr hsrc hlet hpd hGn hGb hR0 hst hnd
  refine (callsIn_wide (n := 12)).1 ?_
  refine callsIn_of_wp_marks Tryz.func81 rfl trivial ?_ rfl
  simp only [Tryz.ntmps81, List.size_toArray, List.length_cons, List.length_nil, Nat.reduceAdd, Nat.reduceSub, Array.replicate_succ, Array.replicate_zero, List.push_toArray, List.append_toArray, List.nil_append, List.cons_append]
  refine wpIn_wide.2 ?_
  go_wp2
  apply wp_scope_straight
  go_upto_region 2 with fail
  clear hcl
  go_upto_region 3 with fail
  rw [← HW3.out]
  clear hz2
  go_wp2
  go_loopw [22] (fun i wr => ∃ k : Nat, k ≤ src.length ∧ i = .int .i64 (k : Int) ∧ Hid (∃ v ps, wr.heap[w.heap.size + 3]? = some (.cells #[v] 36 (0, 0)) ∧ WaysAt wr (w.heap.size + 4) v ps ((src.take k).map fun c => [c])) ∧ Hid (NetB wr bn W H (.slice aw nw cw) (.slice ak nk ck) mo (mkR (src.take k))) ∧ Hid (KeepT [bn] w.heap.size 0 w wr) ∧
      Hid (wr.heap[w.heap.size]? = some (.cells #[.pointer (some ⟨bn, 0, none⟩)] 79 (0, 0))) ∧ Hid (wr.heap[w.heap.size + 1]? = some (.cells #[.func (.func 82) #[.pointer (some ⟨bn, 0, none⟩)] #[]] 118 (0, 0))) ∧ Hid (wr.heap[w.heap.size + 1 + 1]? = some (.cells #[.slice none 0 0, .int .i64 0] 60 (0, 0))) ∧ Hid (w.heap.size + 4 ≤ wr.heap.size)) (fun i wr => src.length - (intOf i).toNat)
  case atStart => exact ⟨0, Nat.zero_le _, rfl, Lib.hid ⟨_, [], B8.out, WaysAt.nil _ _⟩, HN3, HK3, B0, B1, B2, Lib.hid (by have := HZ3.out; omega)⟩
  case round =>
    obtain ⟨k, hk, rfl, hWY, hNT, hKB, hB0, hB1, hB2, hSZ⟩ := hrel
    by_cases hlt : k < src.length
    · obtain ⟨v, ps, hb8, hws⟩ := hWY.out
      obtain ⟨b, off, y, rfl, hy, hcy⟩ := (HSR.out _ hKB.out).at (show k < (natI src).length by rw [natI_len]; exact hlt)
      obtain ⟨c, hc⟩ : ∃ c, src[k]? = some c := ⟨src[k], List.getElem?_eq_getElem hlt⟩
      have hyc := natI_at hc
      rw [hy] at hyc
      cases hyc
      have hc64 : c < 64 := Nat.lt_of_lt_of_le (HSRC.out c (List.mem_of_getElem? hc)) hn64
      have HT := Lib.hid (take_snoc hc)
      obtain ⟨av, capv, rfl⟩ := hws.shape
      have hll : ((src.take k).map fun c => [c]).length = k := by rw [List.length_map, List.length_take]; omega
      rw [hll] at hb8 hws
      have hne8 : bn ≠ w.heap.size + 3 := by omega
      have s0 := cell_of_blk hB0.out (o := 0) rfl
      have s3 := hNT.out.at hc64
      have f3 := hNT.out.free (5 + c)
      have g1 : (0 : Int) ≤ (c : Int) := by omega
      have g2 : (c : Int) < 64 := by omega
      have g3 : (c : Int).toNat = c := by omega
      obtain ⟨X1, hX1⟩ : ∃ X1, X1 = wr.setCell ⟨bn, 5 + c, none⟩ (.bool true) := ⟨_, rfl⟩
      have hkb1 : KeepT [bn] w.heap.size 0 w X1 := by rw [hX1]; exact hKB.out.set_in (.inl (by simp)) _ _
      have hn1 : NetB X1 bn W H (.slice aw nw cw) (.slice ak nk ck) mo ((mkR (src.take k)).set c true) := by rw [hX1]; exact hNT.out.set c true
      have hw1 : WaysAt X1 (w.heap.size + 4) (.slice av k capv) ps ((src.take k).map fun c => [c]) := by rw [hX1]; exact hws.set' hNT.out.blk (by decide) (by decide)
      have oX : ∀ {g : Nat} {o : Obj}, g ≠ bn → wr.heap[g]? = some o → X1.heap[g]? = some o := fun {g o} hg ho => by rw [hX1]; exact (other_blk (grown_set _ _ _ _) hg (lt_of_blk ho)).trans ho
      have hz1 : X1.heap.size = wr.heap.size := by rw [hX1]; simp [World.setCell]
      have hb81 := oX (by omega) hb8
      have hb01 := oX (by omega) hB0.out; have hb11 := oX (by omega) hB1.out; have hb21 := oX (by omega) hB2.out
      obtain ⟨X3, hX3⟩ : ∃ X3, X3 = (X1.alloc (.cells #[.int .i64 (c : Int)] 3)).alloc (.cells #[.slice (some ⟨wr.heap.size, 0, none⟩) 1 1, .int .i64 (-1)] 60) := ⟨_, rfl⟩
      have hE13 : Ext X1 X3 := by rw [hX3]; exact ((Ext.refl _).alloc _).alloc _
      have r3 : Row3 X3 (.slice (some ⟨wr.heap.size, 0, none⟩) 1 1) (natI [c]) := row3_one (by rw [hX3]; exact block_ext ((Ext.refl _).alloc _) (heap_alloc_at X1 _ hz1.symm))
      obtain ⟨q0, q1⟩ := cells2 (show X3.heap[wr.heap.size + 1]? = _ from by rw [hX3]; exact heap_alloc_at (X1.alloc _) _ (by simp; omega))
      obtain ⟨v', X4, hrun, hw4, hg4, hst4, g4, cap4, rfl⟩ := appendW_run (hw1.ext hE13) (by have := hE13.size; have := hSZ.out; omega) (by rw [hll]; omega) r3 _ q0 q1 36
      rw [hll] at hrun hw4
      have hb84 := hg4.block (w.heap.size + 3) (lt_of_blk (block_ext hE13 hb81)) (fun e => by have := (hw1.lt e.symm).2; omega)
      have o4 : ∀ {g : Nat} {o : Obj}, g < w.heap.size + 4 → X1.heap[g]? = some o → X4.heap[g]? = some o := fun {g o} hg ho => (hg4.block g (lt_of_blk (block_ext hE13 ho)) (fun e => by have := (hw1.lt e.symm).2; omega)).trans (block_ext hE13 ho)
      have HB84 := Lib.hid (o4 (by omega) hb81); have HB04 := Lib.hid (o4 (by omega) hb01); have HB14 := Lib.hid (o4 (by omega) hb11); have HB24 := Lib.hid (o4 (by omega) hb21)
      have HN4 := Lib.hid (show NetB X4 bn W H (.slice aw nw cw) (.slice ak nk ck) mo ((mkR (src.take k)).set c true) from ⟨hn1.len, o4 (by omega) hn1.blk⟩)
      have HK4 := Lib.hid ((hkb1.trans (KeepT.ext hE13)).grown_in hg4 (fun g e => .inr (by have := (hw1.lt e).2; omega)))
      have HW4 := Lib.hid hw4
      have HZ4 := Lib.hid (show w.heap.size + 4 ≤ X4.heap.size from by have := hg4.size; have := hE13.size; have := hSZ.out; omega)
      have s8 := cell_of_blk hb81 (o := 0) rfl
      have t8 := cell_of_blk HB84.out (o := 0) rfl
      have u8 := frozen_of_blk HB84.out 0
      rw [hX3, hX1] at hrun
      rw [hX1] at s8
      have HRUN := Lib.hid hrun
      clear hy hc hws hb8 hkb1 hn1 hw1 oX hz1 hb81 hb01 hb11 hb21 hX3 hE13 r3 q0 q1 hw4 hg4 hst4 hb84 o4 hll hX1 hrun
      go_wp2_with (first | (refine wpList_plain rfl fun K hK => ?_; refine wp_append_run (v := .slice av k capv) (sl := .slice (some ⟨wr.heap.size + 1, 0, none⟩) 1 1) (v' := .slice (some ⟨g4, 0, none⟩) (k + 1) cap4) (w' := X4) (.tmp 31) (.tmp 35) 36 rfl ?_ ?_ ?_ ?_; rfl; rfl; exact HRUN.out; refine hK _ _ ?_; clear hK K) | fail)
      have HB8S := Lib.hid (set_blk (cs := [.slice av k capv]) HB84.out (o := 0) (.slice (some ⟨g4, 0, none⟩) (k + 1) cap4))
      have oS : ∀ (g : Nat) (o : Obj), g ≠ w.heap.size + 3 → X4.heap[g]? = some o → (X4.setCell ⟨w.heap.size + 3, 0, none⟩ (.slice (some ⟨g4, 0, none⟩) (k + 1) cap4)).heap[g]? = some o := fun g o hg ho => (other_blk (grown_set _ _ _ _) hg (lt_of_blk ho)).trans ho
      have HOS := Lib.hid oS
      clear oS
      go_roundw
      case rel =>
        refine ⟨k + 1, by omega, by go_num, Lib.hid ⟨_, ps ++ [.slice (some ⟨wr.heap.size, 0, none⟩) 1 1], HB8S.out, ?_⟩, Lib.hid ⟨?_, ?_⟩, Lib.hid (HK4.out.set_in (.inr (by omega)) _ _), Lib.hid (HOS.out _ _ (by omega) HB04.out), Lib.hid (HOS.out _ _ (by omega) HB14.out), Lib.hid (HOS.out _ _ (by omega) HB24.out), Lib.hid (by have := HZ4.out; simp [World.setCell]; omega)⟩
        · rw [HT.out, List.map_append]
          exact HW4.out.set' HB84.out (by decide) (by decide)
        · exact mkR_len _
        · rw [HT.out, mkR_snoc]; exact HOS.out _ _ (by omega) HN4.out.blk
      case measure => simp [intOf]; omega
    · obtain rfl : k = src.length := by omega
      obtain ⟨v, ps, hb8, hws⟩ := hWY.out
      have hnt := hNT.out
      rw [List.take_of_length_le (Nat.le_refl _)] at hws hnt
      have HST0 := HST.out
      obtain ⟨bf, hbf⟩ : ∃ bf, bf = wr.heap.size := ⟨_, rfl⟩
      obtain ⟨w5, hw5⟩ : ∃ w5, w5 = wr.alloc (.cells #[.slice none 0 0, .int .i64 0] 60) := ⟨_, rfl⟩
      have hE5 : Ext wr w5 := by rw [hw5]; exact (Ext.refl wr).alloc _
      have BF := Lib.hid (show w5.heap[bf]? = some (.cells #[.slice none 0 0, .int .i64 0] 60 (0, 0)) from by rw [hw5]; exact heap_alloc_at wr _ hbf)
      have B8 := Lib.hid (block_ext hE5 hb8); have HW5 := Lib.hid (hws.ext hE5); have HN5 := Lib.hid (hnt.ext hE5); have HK5 := Lib.hid (hKB.out.trans (KeepT.ext hE5))
      have B0 := Lib.hid (block_ext hE5 hB0.out); have B1 := Lib.hid (block_ext hE5 hB1.out); have B2 := Lib.hid (block_ext hE5 hB2.out)
      have HNE := Lib.hid (show v.ownBlock ≠ some bf from fun e => by have := (hws.lt e).1; omega)
      have hbf4 : w.heap.size + 4 ≤ bf := by rw [hbf]; exact hSZ.out
      have HWW := Lib.hid hw5
      have HSR0 := Lib.hid (show srch G (memL kn) lt 65 0 (start 64 src) = R0 from HR0.out.symm)
      clear hB0 hB1 hB2 hSZ hKB hNT hWY hb8 hws hnt hE5 hw5
      go_upto_region 10 with fail
      rw [← HWW.out, ← hbf]
      clear hbf
      go_wp2
      go_step3
      go_wp2
      refine wp_loop_ghost (fun N A X => ∃ (i : Nat) (st : SS) (v : Value) (ps : List Value) (ds : List Deferred), Fr93 w.heap.size bf i ds A ∧ N + i = 65 ∧ Hid (SI G (memL kn) lt src 64 i st) ∧ Hid (srch G (memL kn) lt N i st = R0) ∧ Hid (X.heap[w.heap.size + 3]? = some (.cells #[v] 36 (0, 0))) ∧ Hid (WaysAt X (w.heap.size + 4) v ps st.ways) ∧ Hid (v.ownBlock ≠ some bf) ∧ Hid (NetB X bn W H (.slice aw nw cw) (.slice ak nk ck) mo st.rd) ∧ Hid (KeepT [bn] w.heap.size 0 w X) ∧
        Hid (X.heap[w.heap.size]? = some (.cells #[.pointer (some ⟨bn, 0, none⟩)] 79 (0, 0))) ∧ Hid (X.heap[w.heap.size + 1]? = some (.cells #[.func (.func 82) #[.pointer (some ⟨bn, 0, none⟩)] #[]] 118 (0, 0))) ∧ Hid (X.heap[w.heap.size + 1 + 1]? = some (.cells #[.slice none 0 0, .int .i64 0] 60 (0, 0))) ∧ Hid (X.heap[bf]? = some (.cells #[.slice none 0 0, .int .i64 0] 60 (0, 0))) ∧ Hid (Marks (bf + 1) ds X)) 65 ?start ?round
      case start => exact ⟨0, start 64 src, v, ps, [], Fr93.mk, rfl, HST, HSR0, B8, HW5, HNE, HN5, HK5, B0, B1, B2, BF, Lib.hid (Marks.nil _ _)⟩
      case round =>
        clear HN5 HW5 HK5 B0 B1 B2 B8 BF HNE HSR0 HWW HST0 HSR HST
        rintro N A X ⟨i, st, v, ps, ds, ⟨f, rfl⟩, hN, hSI, hsr, hb8, hws, hne, hnt, hkb, hb0, hb1, hb2, hbf, hmk⟩
        have hle := SI.few HPD.out.le (fun c hc => by rw [HGN.out]; exact HSRC.out c hc) hSI.out
        obtain ⟨av, capv, rfl⟩ := hws.out.shape
        obtain ⟨L, hL⟩ : ∃ L, L = st.ways.length := ⟨_, rfl⟩
        have HLL := Lib.hid hL
        rw [← hL] at hb8 hws hne hle
        clear hL
        have s8 := cell_of_blk hb8.out (o := 0) rfl
        have hL63 : L ≤ 9223372036854775807 := by omega
        by_cases hlt : i < L
        · obtain ⟨g, cap, s, ws, hv, hc0, hc1, hwi, hrow⟩ := hws.out.at (show i < st.ways.length by rw [← HLL.out]; exact hlt)
          injection hv with e1 e2 e3
          subst e1 e3
          clear e2
          have HROW := Lib.hid hrow; have HWI := Lib.hid hwi
          obtain ⟨q1, q2, gs, caps, cur, rfl, -⟩ := hrow
          have hwne : ws ≠ [] := fun e => q2 (by rw [e]; rfl)
          obtain ⟨lw, hlw⟩ : ∃ lw, lw = (natI ws).length := ⟨_, rfl⟩
          have HLW := Lib.hid hlw
          rw [← hlw] at HROW hc0
          have hlw1 : 1 ≤ lw := by rw [hlw, natI_len]; exact List.length_pos_iff.2 hwne
          have hlw2 : lw ≤ 4100 := by rw [hlw]; exact q1
          clear hlw q1 q2 hwi
          have ga : (0 : Int) ≤ (i : Int) := by omega
          have gb : (i : Int) < (L : Int) := by omega
          have gc : (i : Int).toNat = i := by omega
          go_upto_region 14 with fail
          obtain ⟨bw, hbw⟩ : ∃ bw, bw = X.heap.size := ⟨_, rfl⟩
          obtain ⟨X1, hX1⟩ : ∃ X1, X1 = X.alloc (.cells #[.slice (some ⟨gs, 0, none⟩) lw caps, .int .i64 (-1)] 60) := ⟨_, rfl⟩
          have hE1 : Ext X X1 := by rw [hX1]; exact (Ext.refl X).alloc _
          have hbwb : bf < bw := by rw [hbw]; exact lt_of_blk hbf.out
          have hz1 : X1.heap.size = bw + 1 := by rw [hX1, hbw]; simp
          have BW1 := Lib.hid (show X1.heap[bw]? = some (.cells #[.slice (some ⟨gs, 0, none⟩) lw caps, .int .i64 (-1)] 60 (0, 0)) from by rw [hX1]; exact heap_alloc_at X _ hbw)
          have B81 := Lib.hid (block_ext hE1 hb8.out); have WS1 := Lib.hid (hws.out.ext hE1); have NT1 := Lib.hid (hnt.out.ext hE1); have KB1 := Lib.hid (hkb.out.trans (KeepT.ext hE1))
          have B01 := Lib.hid (block_ext hE1 hb0.out); have B11 := Lib.hid (block_ext hE1 hb1.out); have B21 := Lib.hid (block_ext hE1 hb2.out); have BF1 := Lib.hid (block_ext hE1 hbf.out)
          have ROW1 := Lib.hid (HROW.out.stay (Stay3.ext hE1))
          have MK1 := Lib.hid (show Marks (bf + 1) ds X1 from hmk.out.keepT (rs := []) (b := 0) (e := 0) (KeepT.ext hE1) (by simp))
          have GW := Lib.hid (show (Value.slice (some ⟨g, 0, none⟩) L capv).ownBlock ≠ some bw from fun e => by have := (hws.out.lt e).1; omega)
          have HX1 := Lib.hid hX1; have HZ1 := Lib.hid hz1; have HBW := Lib.hid hbw
          rw [← hX1, ← hbw]
          clear hX1 hE1 hz1 hbw hb8 hws hnt hkb hb0 hb1 hb2 hbf hmk HROW hc0 hc1 s8
          obtain ⟨ce, hce⟩ : ∃ ce, ce = lastN ws := ⟨_, rfl⟩
          have hlast : ws ∈ st.ways := List.mem_of_getElem? HWI.out
          have hgd := hSI.out.gd ws hlast
          have hcn : ce < W * H := by rw [hce, ← HGN.out]; exact hgd.cell (fun c hc => by rw [HGN.out]; exact HSRC.out c hc) _ hgd.last_mem
          have HEND := Lib.hid (fun (Y : World) (hY : Ext X1 Y) => end_c (.slice (some ⟨gs, 0, none⟩) lw caps) (-1) ws Y ((ROW1.out.stay (Stay3.ext hY)).reads) hwne)
          rw [← hce] at HEND
          obtain ⟨kp, hkp⟩ : ∃ kp, kp = hasB (natI kn) (ce : Int) := ⟨_, rfl⟩
          have HIK := Lib.hid (fun (Y : World) (hY : Ext X1 Y) => isKept_c W H nw cw nk ck aw ak (natI kn) (ce : Int) Y (HKR.out Y (KB1.out.trans (KeepT.ext hY))))
          rw [← hkp] at HIK
          have HKP := Lib.hid (show memL kn (lastN ws) = kp from by rw [hkp, ← hce, hasB_nat]; rfl)
          have HCE := Lib.hid hce
          have HLM := Lib.hid hlast
          clear hkp hlast hgd hce
          obtain ⟨M, rfl⟩ : ∃ M, N = M + 1 := ⟨N - 1, by omega⟩
          have HYA := Lib.hid (Ext.refl X1)
          have H84 := Lib.hid (fun X => neighbours_c W H nw cw nk ck aw ak ce X)
          refine wp_region_order (fun Y : World => Y.heap[w.heap.size]? = some (.cells #[.pointer (some ⟨bn, 0, none⟩)] 79 (0, 0)) ∧ NetB Y bn W H (.slice aw nw cw) (.slice ak nk ck) mo st.rd ∧ Y.heap[bw]? = some (.cells #[.slice (some ⟨gs, 0, none⟩) lw caps, .int .i64 (-1)] 60 (0, 0))) [0, 1, 2, 3, 4, 5, 6] (by kernel_rfl) (by kernel_rfl) (by exact ⟨B01.out, NT1.out.ext (Ext.refl _).drew, BW1.out⟩) (fun hHeld => ?_)
          simp only [opsIn, List.filterMap_cons, List.filterMap_nil, List.getElem?_toArray, List.getElem?_cons_succ, List.getElem?_cons_zero]
          refine' text_chunk 5 (by kernel_rfl) hHeld ?ck5 ?cr5
          case ck5 =>
            intro W hSw
            have hSW := hSw
            try dsimp only at hSW
            clear hSw
            obtain ⟨s1, s2, s3⟩ := hSW
            have p0 := cell_of_blk s1 (o := 0) rfl
            obtain ⟨n0, n1, n2, n3, n4⟩ := s2.head
            obtain ⟨d0, d1⟩ := cells2 s3
            simp only [List.take_succ_cons, List.take_zero, List.drop_succ_cons, List.drop_zero]
            repeat (go_big_quiet_step (fail))
            exact wpQuiet_nil rfl
          simp only [List.take_succ_cons, List.take_zero, List.drop_succ_cons, List.drop_zero]
          refine text_call (by rfl) (by rfl) (fun K hK => ?_)
          go_simp
          refine (HEND.out _ (HYA.out.trans (Ext.refl _).drew)).mono ?_
          rintro e Y2 ⟨rfl, hb⟩
          have HYY := Lib.hid hb
          have HY2 := Lib.hid ((HYA.out.trans (Ext.refl _).drew).trans hb)
          clear hb
          all_goals (try (go_wp2_with fail))
          refine hK.out _ _ (by exact ⟨block_ext HYY.out hHeld.1, hHeld.2.1.ext HYY.out, block_ext HYY.out hHeld.2.2⟩) (fun hHeld => ?_)
          clear hK K
          try simp only [Act.put, List.setIfInBounds_toArray, List.set_cons_zero, List.set_cons_succ]
          refine text_call (by rfl) (by rfl) (fun K hK => ?_)
          go_simp
          refine (HIK.out _ HY2.out).mono ?_
          rintro e Y3 ⟨rfl, hb⟩
          have HYY := Lib.hid hb
          have HY3 := Lib.hid (HY2.out.trans hb)
          clear hb
          all_goals (try (go_wp2_with fail))
          refine hK.out _ _ (by exact ⟨block_ext HYY.out hHeld.1, hHeld.2.1.ext HYY.out, block_ext HYY.out hHeld.2.2⟩) (fun hHeld => ?_)
          clear hK K
          try simp only [Act.put, List.setIfInBounds_toArray, List.set_cons_zero, List.set_cons_succ]
          refine text_done ?_
          clear hHeld HY2 HYA
          have BW3 := Lib.hid (block_ext HY3.out BW1.out); have BF3 := Lib.hid (block_ext HY3.out BF1.out); have B23 := Lib.hid (block_ext HY3.out B21.out)
          cases kp
          · go_upto_region 16 with fail
            have HYA := HY3
            refine wp_region_order (fun Y : World => Y.heap[w.heap.size]? = some (.cells #[.pointer (some ⟨bn, 0, none⟩)] 79 (0, 0)) ∧ NetB Y bn W H (.slice aw nw cw) (.slice ak nk ck) mo st.rd ∧ Y.heap[bw]? = some (.cells #[.slice (some ⟨gs, 0, none⟩) lw caps, .int .i64 (-1)] 60 (0, 0))) [0, 1, 2, 3, 4, 5, 6] (by kernel_rfl) (by kernel_rfl) (by exact ⟨block_ext HY3.out B01.out, (NT1.out.ext HY3.out).ext (Ext.refl _).drew, BW3.out⟩) (fun hHeld => ?_)
            simp only [opsIn, List.filterMap_cons, List.filterMap_nil, List.getElem?_toArray, List.getElem?_cons_succ, List.getElem?_cons_zero]
            refine' text_chunk 5 (by kernel_rfl) hHeld ?ck6 ?cr6
            case ck6 =>
              intro W hSw
              have hSW := hSw
              try dsimp only at hSW
              clear hSw
              obtain ⟨s1, s2, s3⟩ := hSW
              have p0 := cell_of_blk s1 (o := 0) rfl
              obtain ⟨n0, n1, n2, n3, n4⟩ := s2.head
              obtain ⟨d0, d1⟩ := cells2 s3
              simp only [List.take_succ_cons, List.take_zero, List.drop_succ_cons, List.drop_zero]
              repeat (go_big_quiet_step (fail))
              exact wpQuiet_nil rfl
            simp only [List.take_succ_cons, List.take_zero, List.drop_succ_cons, List.drop_zero]
            refine text_call (by rfl) (by rfl) (fun K hK => ?_)
            go_simp
            refine (HEND.out _ (HYA.out.trans (Ext.refl _).drew)).mono ?_
            rintro e Y2 ⟨rfl, hb⟩
            have HYY := Lib.hid hb
            have HY2 := Lib.hid ((HYA.out.trans (Ext.refl _).drew).trans hb)
            clear hb
            all_goals (try (go_wp2_with fail))
            refine hK.out _ _ (by exact ⟨block_ext HYY.out hHeld.1, hHeld.2.1.ext HYY.out, block_ext HYY.out hHeld.2.2⟩) (fun hHeld => ?_)
            clear hK K
            try simp only [Act.put, List.setIfInBounds_toArray, List.set_cons_zero, List.set_cons_succ]
            refine text_call (by rfl) (by rfl) (fun K hK => ?_)
            go_simp
            refine (H84.out _).mono ?_
            rintro e Y5 ⟨rfl, hY5⟩
            have HYY := Lib.hid (show Ext Y2 Y5 from by rw [hY5]; exact ((Ext.refl Y2).alloc _).alloc _)
            have B5P := Lib.hid (show Y5.heap[Y2.heap.size]? = some (.cells #[.int .i64 (W : Int), .int .i64 (H : Int), .slice aw nw cw, .slice ak nk ck] 72 (0, 0)) from by rw [hY5]; exact block_ext ((Ext.refl _).alloc _) (heap_alloc_new Y2 _))
            have B5C := Lib.hid (show Y5.heap[Y2.heap.size + 1]? = some (.cells #[.int .i64 (ce : Int)] 3 (0, 0)) from by rw [hY5]; exact heap_alloc_at (Y2.alloc _) _ (by simp))
            have HY5 := Lib.hid (HY2.out.trans HYY.out)
            have HYB := Lib.hid (lt_of_blk (block_ext HY2.out BW1.out))
            clear hY5
            all_goals (try (go_wp2_with fail))
            refine hK.out _ _ (by exact ⟨block_ext HYY.out hHeld.1, hHeld.2.1.ext HYY.out, block_ext HYY.out hHeld.2.2⟩) (fun hHeld => ?_)
            clear hK K
            try simp only [Act.put, List.setIfInBounds_toArray, List.set_cons_zero, List.set_cons_succ]
            refine text_done ?_
            clear hHeld HY2 HYA HYY HEND HIK HY3 BW3 BF3 B23 H84
            obtain ⟨ny, hny⟩ : ∃ ny, ny = Y2.heap.size := ⟨_, rfl⟩
            rw [← hny] at B5P B5C HYB ⊢
            clear hny
            have hnb := HYB.out
            have BW5 := Lib.hid (block_ext HY5.out BW1.out); have BF5 := Lib.hid (block_ext HY5.out BF1.out); have B85 := Lib.hid (block_ext HY5.out B81.out)
            have B05 := Lib.hid (block_ext HY5.out B01.out); have B15 := Lib.hid (block_ext HY5.out B11.out); have B25 := Lib.hid (block_ext HY5.out B21.out)
            have WS5 := Lib.hid (WS1.out.ext HY5.out); have NT5 := Lib.hid (NT1.out.ext HY5.out); have KB5 := Lib.hid (KB1.out.trans (KeepT.ext HY5.out)); have ROW5 := Lib.hid (ROW1.out.stay (Stay3.ext HY5.out))
            have MK5 := Lib.hid (MK1.out.keepT (rs := []) (b := 0) (e := 0) (KeepT.ext HY5.out) (by simp))
            have hz5 : bw < Y5.heap.size := lt_of_blk BW5.out
            have hce64 : ce < 64 := by omega
            have hlw3 : ws.length ≤ 64 := nodup_le 64 (hSI.out.gd ws HLM.out).steps.2.1 (fun y hy => by
              have := (hSI.out.gd ws HLM.out).cell (fun c hc => by rw [HGN.out]; exact HSRC.out c hc) y hy
              rw [HGN.out] at this; omega)
            have HR3 := Lib.hid (show ∀ r ∈ [bn, w.heap.size + 3, bf], ∀ cs : Array Value, Y5.heap[r]? ≠ some (Obj.cells cs 3 (0, 0)) from fun r hr => by
              simp only [List.mem_cons, List.not_mem_nil, or_false] at hr
              rcases hr with rfl | rfl | rfl
              · exact not3 NT5.out.blk (by decide)
              · exact not3 B85.out (by decide)
              · exact not3 BF5.out (by decide))
            clear B01 B11 B21 B81 WS1 NT1 KB1 ROW1 MK1 BF1 BW1 HX1 HZ1 HBW HY5 HYB
            have HSEQ := Lib.hid (neighbours_seq W H nw cw nk ck aw ak ce 11 (ny + 1) ny [bn, w.heap.size + 3, bf] (w.heap.size + 4) 60 Y5 (by omega) hW hH hcn B5C.out B5P.out (by simp; omega) (by simp; omega) (by simp; omega) (by decide))
            go_wp2
            refine (wpIn_wide (n := 12)).1 ?_
            refine wp_seqLB (n := 12) (by omega) (gf := 112) (encs := encN W H ce) (ps := #[63, 64]) (rs := [bn, w.heap.size + 3, bf]) (b := w.heap.size + 4) (e := 60) rfl (enters_of Tryz.func112 (by kernel_rfl) rfl) HSEQ.out (Below.refl _ _) (fun _ => rfl) (by simp; omega)
              (fun k Y => ∃ (st' : SS) (v : Value) (ps' : List Value), scan G lt ws ce ([0, 1, 2, 3].take k) st = (st', none) ∧ Y.heap[w.heap.size + 3]? = some (.cells #[v] 36 (0, 0)) ∧ WaysAt Y (w.heap.size + 4) v ps' st'.ways ∧ v.ownBlock ≠ some bf ∧ v.ownBlock ≠ some bw ∧ NetB Y bn W H (.slice aw nw cw) (.slice ak nk ck) mo st'.rd ∧ Y.heap[bf]? = some (.cells #[.slice none 0 0, .int .i64 0] 60 (0, 0)) ∧ Y.heap[bw]? = some (.cells #[.slice (some ⟨gs, 0, none⟩) lw caps, .int .i64 (-1)] 60 (0, 0)) ∧ KeepT [bn, w.heap.size + 3, bf] (w.heap.size + 4) 60 Y5 Y)
              (fun q k Y => q = .exit 2 ∧ ∃ st' : SS, scan G lt ws ce [0, 1, 2, 3] st = (st', some (k - 1)) ∧ NetB Y bn W H (.slice aw nw cw) (.slice ak nk ck) mo st'.rd ∧ Y.heap[bf]? = some (.cells #[.slice (some ⟨gs, 0, none⟩) lw caps, .int .i64 ((k - 1 : Nat) : Int)] 60 (0, 0)) ∧ KeepT [bn, w.heap.size + 3, bf] (w.heap.size + 4) 60 Y5 Y) ?hI ?hIx ?h0 ?hIE 124 (fun k => #[.int .i64 (ce : Int), .int .i64 (k : Int)]) ?af ?assign ?body ?done ?stop
            case hI =>
              rintro s A B row ⟨st', v, ps', h1, h2, h3, h4, h5, h6, h7, h8, h9⟩ hg hr
              exact ⟨st', v, ps', h1, cells_turn h2 hg hr, h3.turn hg hr, h4, h5, h6.turn hg hr, cells_turn h7 hg hr, cells_turn h8 hg hr, ownFrom_keepT (β := Unit) (Nat.le_refl _) () A B row h9 hg hr⟩
            case hIx =>
              rintro q s A B row ⟨hq, st', h1, h2, h3, h4⟩ hg hr
              exact ⟨hq, st', h1, h2.turn hg hr, cells_turn h3 hg hr, ownFrom_keepT (β := Unit) (Nat.le_refl _) () A B row h4 hg hr⟩
            case h0 => exact ⟨st, _, ps, rfl, B85.out, WS5.out, hne.out, GW.out, NT5.out, BF5.out, BW5.out, KeepT.refl _ _ _ _⟩
            case hIE =>
              rintro k A B ⟨st', v, ps', h1, h2, h3, h4, h5, h6, h7, h8, h9⟩ hE
              exact ⟨st', v, ps', h1, block_ext hE h2, h3.ext hE, h4, h5, h6.ext hE, block_ext hE h7, block_ext hE h8, h9.trans (KeepT.ext hE)⟩
            case assign =>
              rintro l2 x A B K hB hK
              dsimp only [encN]
              gi_wp2
              first | rw [← hB] | skip
              exact hK
            case body =>
              rintro l2 k x Bx X hl2 hx ⟨st', v', ps', hsc, h8, hws', hn1, hn2, hnt', hbf', hbw', hK⟩ hBx hbx
              obtain ⟨rfl, hk4⟩ := four_at hx
              clear hx
              have hkbx : KeepT [bn] w.heap.size 0 w X := KeepT.comp KB5.out hK (fun r hr => by simp at hr ⊢; omega) (by omega)
              have c4 := cell_of_blk (hK.cells (by simp; omega) B15.out (by decide)) (o := 0) rfl
              have c3 := cell_of_blk (hK.cells (by simp; omega) B05.out (by decide)) (o := 0) rfl
              obtain ⟨s0, s1⟩ := cells2 hbx
              have hxl := lt_of_blk hbx
              have hL := HLET.out X (ce, x) hce64 hk4 hkbx hnt'.head.2.2.2.2
              dsimp only at hL
              obtain ⟨lb, hlb⟩ : ∃ lb, lb = lt (ce, x) := ⟨_, rfl⟩
              rw [← hlb] at hL
              have HL := Lib.hid hL
              obtain ⟨nv, hnv⟩ : ∃ nv, nv = nx W H ce x := ⟨_, rfl⟩
              rw [← hnv]
              have HLB := Lib.hid hlb; have HNV := Lib.hid hnv; have HSC := Lib.hid hsc
              have BX := Lib.hid hbx; have Q8 := Lib.hid h8; have QW := Lib.hid hws'; have QN := Lib.hid hnt'; have QF := Lib.hid hbf'; have QB := Lib.hid hbw'; have HKX := Lib.hid hK
              have hnn1 := Lib.hid hn1; have hnn2 := Lib.hid hn2
              have hsi' := (scan_is HPD.out.le (fun c hc => by rw [HGN.out]; exact HSRC.out c hc) ([0, 1, 2, 3].take x) st (fun j hj => by have := List.mem_of_mem_take hj; simp at this; omega) hSI.out HLM.out HKP.out)
              rw [← HCE.out, hsc] at hsi'
              obtain ⟨hsi', hpre, -⟩ := hsi'
              have hlen1 : 1 ≤ st'.ways.length := by
                have h1 := hpre.length_le
                have h2 := List.length_pos_of_mem HLM.out
                dsimp only at h1
                omega
              clear hpre
              have hfew := SI.few HPD.out.le (fun c hc => by rw [HGN.out]; exact HSRC.out c hc) hsi'
              dsimp only at hfew
              clear hsc hbx h8 hws' hnt' hbf' hbw' hK hkbx hL hlb hnv hn1 hn2 hsi'
              gi_wp2_with fail
              refine ⟨trivial, (CallsIn.inRound l2 (callsIn_wide.2 HL.out)).mono ?_⟩
              rintro e Y ⟨rfl, hE⟩
              have HE := Lib.hid hE
              replace BX := Lib.hid (block_ext hE BX.out); replace Q8 := Lib.hid (block_ext hE Q8.out); replace QW := Lib.hid (QW.out.ext hE); replace QN := Lib.hid (QN.out.ext hE); replace QF := Lib.hid (block_ext hE QF.out); replace QB := Lib.hid (block_ext hE QB.out)
              have HXY := Lib.hid (show KeepT [bn, w.heap.size + 3, bf] (w.heap.size + 4) 60 X Y from KeepT.ext hE)
              replace HKX := Lib.hid (HKX.out.trans HXY.out)
              replace c4 := cell_ext hE c4; replace c3 := cell_ext hE c3; replace s0 := cell_ext hE s0; replace s1 := cell_ext hE s1
              clear hE HL
              cases lb
              · gi_wp2
                refine ⟨HXY.out, st', v', ps', ?_, Q8.out, QW.out, hnn1.out, hnn2.out, QN.out, QF.out, QB.out, HKX.out⟩
                rw [scan_next hk4 HSC.out]; exact scan_no HLB.out.symm
              · rcases nx_bound hW.2 hH.2 hcn hk4 with hb | ⟨d, hb, hbd, hdn⟩
                · have hbn' := nx_none hb
                  rw [← HNV.out] at hb
                  subst hb
                  obtain ⟨d0, d1⟩ := cells2 QB.out
                  obtain ⟨z0, z1⟩ := cells2 QF.out
                  have y0 := frozen_of_blk QF.out 0
                  have y1 := frozen_of_blk QF.out 1
                  have HBH := Lib.hid hbn'
                  clear hbn'
                  gi_wp2
                  have hk1 : KeepT [bn, w.heap.size + 3, bf] (w.heap.size + 4) 60 Y ((Y.setCell ⟨bf, 0, none⟩ (.slice (some ⟨gs, 0, none⟩) lw caps)).setCell ⟨bf, 1, none⟩ (.int .i64 (x : Int))) := (KeepT.set _ (by simp) _).trans (KeepT.set _ (by simp) _)
                  refine ⟨HXY.out.trans hk1, rfl, st', ?_, ⟨QN.out.len, ?_⟩, set2 QF.out _ _, HKX.out.trans hk1⟩
                  · exact scan_stop hk4 HSC.out (scan_out HLB.out.symm (by rw [HGB.out]; exact HBH.out))
                  · have e1 := (other_blk (grown_set Y bf 0 (.slice (some ⟨gs, 0, none⟩) lw caps)) (g := bn) (by omega) (lt_of_blk QN.out.blk)).trans QN.out.blk
                    exact (other_blk (grown_set _ _ _ _) (by omega) (lt_of_blk e1)).trans e1
                · rw [← HNV.out] at hb
                  subst hb
                  have HBD := Lib.hid (show G.bh (ce, x) = some d from by rw [HGB.out]; exact hbd)
                  clear hbd
                  have gd0 : (0 : Int) ≤ (d : Int) := by omega
                  have gd1 : (d : Int) < 64 := by omega
                  have gd2 : (d : Int).toNat = d := by omega
                  have gd3 : ((d : Int) == -1) = false := by simp
                  have gd4 : decide ((d : Int) = -1) = false := by simp
                  have gd5 : ¬ ((d : Int) = -1) := by omega
                  have n5 := QN.out.at (c := d) (by omega)
                  have n6 := QN.out.free (5 + d)
                  obtain ⟨rb, hrb⟩ : ∃ rb, rb = isR st'.rd d := ⟨_, rfl⟩
                  rw [← hrb] at n5
                  have HRB := Lib.hid hrb
                  clear hrb
                  cases rb
                  · have hd64 : d < 64 := by omega
                    obtain ⟨av, cv, rfl⟩ := QW.out.shape
                    obtain ⟨Z, hZ⟩ : ∃ Z, Z = Y.setCell ⟨bn, 5 + d, none⟩ (.bool true) := ⟨_, rfl⟩
                    have oZ : ∀ {g : Nat} {o : Obj}, g ≠ bn → Y.heap[g]? = some o → Z.heap[g]? = some o := fun {g o} hg ho => by rw [hZ]; exact (other_blk (grown_set _ _ _ _) hg (lt_of_blk ho)).trans ho
                    have Z8 := Lib.hid (oZ (by omega) Q8.out); have ZF := Lib.hid (oZ (by omega) QF.out); have ZB := Lib.hid (oZ (by omega) QB.out)
                    have ZN := Lib.hid (show NetB Z bn W H (.slice aw nw cw) (.slice ak nk ck) mo (st'.rd.set d true) from by rw [hZ]; exact QN.out.set d true)
                    have ZW := Lib.hid (show WaysAt Z (w.heap.size + 4) (.slice av st'.ways.length cv) ps' st'.ways from by rw [hZ]; exact QW.out.set' QN.out.blk (by decide) (by decide))
                    have ZK := Lib.hid (show KeepT [bn, w.heap.size + 3, bf] (w.heap.size + 4) 60 Y Z from by rw [hZ]; exact KeepT.set _ (by simp) _)
                    have ZX := Lib.hid (HXY.out.trans ZK.out)
                    have Z5 := Lib.hid (HKX.out.trans ZK.out)
                    have HZ := Lib.hid hZ
                    clear oZ hZ
                    clear Q8 QW QN QF QB HXY HKX
                    gi_upto_region 24 with fail
                    rw [← HZ.out]
                    clear HZ n5 n6 c3 c4 s0 s1 BX
                    refine wpIn_orderL (tk := takeB) (fun _ => trivial) (fun W : World => W.heap[w.heap.size + 3]? = some (.cells #[.slice av st'.ways.length cv] 36 (0, 0)) ∧ W.heap[bw]? = some (.cells #[.slice (some ⟨gs, 0, none⟩) lw caps, .int .i64 (-1)] 60 (0, 0))) [0, 1, 2, 3, 4, 5, 6] 6 (by kernel_rfl) (by kernel_rfl) (by kernel_rfl) (by exact ⟨Z8.out, ZB.out⟩) (fun hHeld => ?_)
                    simp only [opsIn, List.filterMap_cons, List.filterMap_nil, List.getElem?_toArray, List.getElem?_cons_succ, List.getElem?_cons_zero]
                    refine' textL_chunk 3 (by kernel_rfl) hHeld ?ckA ?crA
                    case ckA =>
                      intro W hSw
                      have hSW := hSw
                      try dsimp only at hSW
                      clear hSw
                      have r8 := cell_of_blk hSW.1 (o := 0) rfl
                      obtain ⟨d0, d1⟩ := cells2 hSW.2
                      simp only [List.take_succ_cons, List.take_zero, List.drop_succ_cons, List.drop_zero]
                      repeat (go_big_quiet_step (fail))
                      exact wpQuiet_nil rfl
                    simp only [List.take_succ_cons, List.take_zero, List.drop_succ_cons, List.drop_zero]
                    refine textL_call (by rfl) (by rfl) (fun K hK => ?_)
                    go_simp
                    refine ⟨trivial, (CallsIn.inRound l2 (callsIn_wide.2 (longer_c (.slice (some ⟨gs, 0, none⟩) lw caps) (-1) ws d Z.drew ((ROW5.out.keepT Z5.out (by decide) HR3.out).reads.ext (Ext.refl Z).drew) hwne (by omega)))).mono ?_⟩
                    rintro e V1 ⟨vl, rfl, ho1, he1⟩
                    have HEE := Lib.hid he1
                    have HV1 := Lib.hid ((Ext.refl Z).drew.trans he1)
                    have HO1 := Lib.hid (ho1.row3 (by simp [natI]; omega) (by simp [natI]))
                    clear he1 ho1
                    all_goals (try (gi_wp2_with fail))
                    refine hK.out _ _ (by exact ⟨block_ext HEE.out hHeld.1, block_ext HEE.out hHeld.2⟩) (fun hHeld => ?_)
                    clear hK K
                    try simp only [Act.put, List.setIfInBounds_toArray, List.set_cons_zero, List.set_cons_succ]
                    refine textL_call (by rfl) (by rfl) (fun K hK => ?_)
                    go_simp
                    obtain ⟨V2, hV2⟩ : ∃ V2, V2 = V1.alloc (.cells #[vl, .int .i64 (-1)] 60) := ⟨_, rfl⟩
                    have hee : Ext V1 V2 := by rw [hV2]; exact (Ext.refl V1).alloc _
                    have HEE := Lib.hid hee
                    have HV2 := Lib.hid (HV1.out.trans hee)
                    obtain ⟨q0, q1⟩ := cells2 (show V2.heap[V1.heap.size]? = _ from by rw [hV2]; exact heap_alloc_new V1 _)
                    have HWV := Lib.hid (ZW.out.ext HV2.out)
                    have hz4 : w.heap.size + 4 ≤ V2.heap.size := by have := hee.size; have := HV1.out.size; have := lt_of_blk ZF.out; omega
                    obtain ⟨v9, W9, hrun, hw9, hg9, hst9, g9, cap9, rfl⟩ := appendW_run HWV.out hz4 (by omega) (HO1.out.stay (Stay3.ext hee)) V1.heap.size q0 q1 36
                    have HRUN := Lib.hid hrun; have HW9 := Lib.hid hw9; have HG9 := Lib.hid hg9; have HST9 := Lib.hid hst9
                    rw [← hV2]
                    clear hee hrun hw9 hg9 hst9 q0 q1 hV2
                    all_goals (try (gi_wp2_with fail))
                    refine hK.out _ _ (by exact ⟨block_ext HEE.out hHeld.1, block_ext HEE.out hHeld.2⟩) (fun hHeld => ?_)
                    clear hK K
                    try simp only [Act.put, List.setIfInBounds_toArray, List.set_cons_zero, List.set_cons_succ]
                    have g8 : W9.heap[w.heap.size + 3]? = V2.heap[w.heap.size + 3]? := HG9.out.block (w.heap.size + 3) (by omega) (fun e => by have := (HWV.out.lt e.symm).2; omega)
                    have gw : W9.heap[bw]? = V2.heap[bw]? := HG9.out.block bw (lt_of_blk hHeld.2) (fun e => hnn2.out e.symm)
                    have gf : W9.heap[bf]? = V2.heap[bf]? := HG9.out.block bf (lt_of_blk (block_ext HV2.out ZF.out)) (fun e => hnn1.out e.symm)
                    have gn : W9.heap[bn]? = V2.heap[bn]? := HG9.out.block bn (lt_of_blk (block_ext HV2.out ZN.out.blk)) (fun e => by have := (HWV.out.lt e.symm).2; omega)
                    refine textL_call (by rfl) (by rfl) (fun K hK => ?_)
                    refine wpIn_append_run (v := .slice av st'.ways.length cv) (sl := .slice (some ⟨V1.heap.size, 0, none⟩) 1 1) (v' := (.slice (some ⟨g9, 0, none⟩) (st'.ways.length + 1) cap9)) (w' := W9) (fun _ => trivial) (.tmp 91) (.tmp 95) 36 rfl ?_ ?_ ?_ ?_
                    rfl
                    rfl
                    exact HRUN.out
                    refine hK.out _ _ (by exact ⟨g8.trans hHeld.1, gw.trans hHeld.2⟩) (fun hHeld => ?_)
                    clear hK K HRUN
                    try simp only [Act.put, List.setIfInBounds_toArray, List.set_cons_zero, List.set_cons_succ]
                    have W8 := Lib.hid hHeld.1; have WB := Lib.hid hHeld.2
                    have r8 := cell_of_blk hHeld.1 (o := 0) rfl
                    have f8 := frozen_of_blk hHeld.1 0
                    have WF := Lib.hid (gf.trans (block_ext HV2.out ZF.out)); have WN := Lib.hid (show NetB W9 bn W H (.slice aw nw cw) (.slice ak nk ck) mo (st'.rd.set d true) from ⟨ZN.out.len, gn.trans (block_ext HV2.out ZN.out.blk)⟩)
                    have WK := Lib.hid (show KeepT [bn, w.heap.size + 3, bf] (w.heap.size + 4) 60 Z W9 from (KeepT.ext HV2.out).trans (HWV.out.keepT HG9.out))
                    have NE1 := Lib.hid (HW9.out.ne (by simp; omega) WF.out)
                    have NE2 := Lib.hid (HW9.out.ne (by simp; omega) WB.out)
                    clear g8 gw gf gn hHeld
                    refine textL_last (by rfl) (by rfl) (fun K hK => ?_)
                    go_simp
                    refine hK.out _ _ ?_
                    clear hK K
                    have k10 : KeepT [bn, w.heap.size + 3, bf] (w.heap.size + 4) 60 W9 (W9.setCell ⟨w.heap.size + 3, 0, none⟩ (.slice (some ⟨g9, 0, none⟩) (st'.ways.length + 1) cap9)) := KeepT.set _ (by simp) _
                    have o10 : ∀ {g : Nat} {o : Obj}, g ≠ w.heap.size + 3 → W9.heap[g]? = some o → (W9.setCell ⟨w.heap.size + 3, 0, none⟩ (.slice (some ⟨g9, 0, none⟩) (st'.ways.length + 1) cap9)).heap[g]? = some o := fun {g o} hg ho => (other_blk (grown_set _ _ _ _) hg (lt_of_blk ho)).trans ho
                    have HK10 := Lib.hid (WK.out.trans k10)
                    have T8 := Lib.hid (set_blk (cs := [.slice av st'.ways.length cv]) W8.out (o := 0) (.slice (some ⟨g9, 0, none⟩) (st'.ways.length + 1) cap9))
                    have TW := Lib.hid (HW9.out.set' W8.out (by decide) (by decide) (o := 0) (u := (.slice (some ⟨g9, 0, none⟩) (st'.ways.length + 1) cap9)))
                    have TF := Lib.hid (o10 (by omega) WF.out); have TB := Lib.hid (o10 (by omega) WB.out); have TN := Lib.hid (o10 (by omega) WN.out.blk)
                    clear k10 o10 r8 f8
                    gi_wp2
                    refine ⟨ZX.out.trans HK10.out, ⟨st'.ways ++ [ws ++ [d]], st'.rd.set d true⟩, _, ps' ++ [vl], ?_, T8.out, TW.out, NE1.out, NE2.out, ⟨WN.out.len, TN.out⟩, TF.out, TB.out, Z5.out.trans HK10.out⟩
                    rw [scan_next hk4 HSC.out]
                    exact scan_new HLB.out.symm HBD.out HRB.out.symm
                  · gi_wp2
                    refine ⟨HXY.out, st', v', ps', ?_, Q8.out, QW.out, hnn1.out, hnn2.out, QN.out, QF.out, QB.out, HKX.out⟩
                    rw [scan_next hk4 HSC.out]; exact scan_old HLB.out.symm HBD.out HRB.out.symm
            case done =>
              rintro D X hD ⟨st', v', ps', hsc, h8, hws', hn1, hn2, hnt', hbf', hbw', hK⟩ hDW
              have hnx := SI.next HPD.out.le (fun c hc => by rw [HGN.out]; exact HSRC.out c hc) hSI.out HWI.out HKP.out (by rw [← HCE.out]; exact hsc)
              have HSI' := Lib.hid hnx
              have HSR' := Lib.hid (show srch G (memL kn) lt M (i + 1) st' = R0 from by rw [← hsr.out]; exact (srch_next HWI.out HKP.out (by rw [← HCE.out]; exact hsc)).symm)
              have HK' := Lib.hid (KeepT.comp KB5.out hK (fun r hr => by simp at hr ⊢; omega) (by omega))
              have HMK' := Lib.hid (Marks.cons (MK5.out.keepT hK (fun r hr => by simp at hr; omega)) MK5.out hD (by omega) hDW)
              have C0 := Lib.hid (hK.cells (by simp; omega) B05.out (by decide)); have C1 := Lib.hid (hK.cells (by simp; omega) B15.out (by decide)); have C2 := Lib.hid ((hK.low (lt_of_blk B25.out) (by simp; omega) (by omega)).trans B25.out)
              have D8 := Lib.hid h8; have DW := Lib.hid hws'; have DN := Lib.hid hnt'; have DF := Lib.hid hbf'; have DE := Lib.hid hn1
              clear hnx hsc h8 hws' hnt' hbf' hbw' hK hDW hn1 hn2
              go_wp2
              exact ⟨M, by omega, i + 1, st', v', ps', _, Fr93.mk, by omega, HSI', HSR', D8, DW, DE, DN, HK', C0, C1, C2, DF, HMK'⟩
            case stop =>
              rintro D q k X hD hk ⟨rfl, st', hsc, hnt', hbf', hK⟩ hDW
              rw [Nat.add_sub_cancel] at hsc hbf'
              have hmk' := Marks.cons (MK5.out.keepT hK (fun r hr => by simp at hr; omega)) MK5.out hD (by omega) hDW
              obtain ⟨dsn, hdsn⟩ : ∃ dsn, dsn = ({ target := .collected D, args := #[] } : Deferred) :: ds := ⟨_, rfl⟩
              rw [← hdsn] at hmk' ⊢
              have HMKT := Lib.hid hmk'
              have hres : R0 = (st', some (ws, some k)) := by rw [← hsr.out]; exact srch_stop HWI.out HKP.out (by rw [← HCE.out]; exact hsc)
              have HRES := Lib.hid hres
              have HBFT := Lib.hid hbf'; have HNTT := Lib.hid hnt'
              have HB2T := Lib.hid ((hK.low (lt_of_blk B25.out) (by simp; omega) (by omega)).trans B25.out)
              have HKBT := Lib.hid (KeepT.comp KB5.out hK (fun r hr => by simp at hr ⊢; omega) (by omega))
              have HROWT := Lib.hid (ROW5.out.keepT hK (by decide) HR3.out)
              clear hmk' hres hbf' hnt' hK hDW hsc hdsn
              refine wpIn_wide.2 ?_
              go_upto_region 25 with fail
              refine wp_region_order (fun Y : World => Y.heap[bf]? = some (.cells #[.slice (some ⟨gs, 0, none⟩) lw caps, .int .i64 (k : Int)] 60 (0, 0))) [0, 1, 2, 3, 4, 5, 6] (by kernel_rfl) (by kernel_rfl) (by exact HBFT.out) (fun hHeld => ?_)
              simp only [opsIn, List.filterMap_cons, List.filterMap_nil, List.getElem?_toArray, List.getElem?_cons_succ, List.getElem?_cons_zero]
              refine' text_chunk 3 (by kernel_rfl) hHeld ?ck7 ?cr7
              case ck7 =>
                intro W hSw
                have hSW := hSw
                try dsimp only at hSW
                clear hSw
                obtain ⟨d0, d1⟩ := cells2 hSW
                simp only [List.take_succ_cons, List.take_zero, List.drop_succ_cons, List.drop_zero]
                repeat (go_big_quiet_step (fail))
                exact wpQuiet_nil rfl
              simp only [List.take_succ_cons, List.take_zero, List.drop_succ_cons, List.drop_zero]
              refine' text_take (by rfl) (by rfl) ?ck8 ?cr8
              case ck8 => (intro W hSw; (try dsimp only at hSw); go_simp; all_goals with_reducible rfl)
              try simp only [Act.put, List.setIfInBounds_toArray, List.set_cons_zero, List.set_cons_succ]
              refine' text_chunk 1 (by kernel_rfl) hHeld ?ck9 ?cr9
              case ck9 =>
                intro W hSw
                have hSW := hSw
                try dsimp only at hSW
                clear hSw
                obtain ⟨d0, d1⟩ := cells2 hSW
                simp only [List.take_succ_cons, List.take_zero, List.drop_succ_cons, List.drop_zero]
                repeat (go_big_quiet_step (fail))
                exact wpQuiet_nil rfl
              simp only [List.take_succ_cons, List.take_zero, List.drop_succ_cons, List.drop_zero]
              obtain ⟨q0, q1⟩ := cells2 HB2T.out
              have f0 := frozen_of_blk HB2T.out 0
              have f1 := frozen_of_blk HB2T.out 1
              have hs2 := Lib.hid (set2 (X := X) HB2T.out (.slice (some ⟨gs, 0, none⟩) lw caps) (.int .i64 (k : Int)))
              refine text_call (by rfl) (by rfl) (fun K hK => ?_)
              go_simp
              all_goals (try (go_wp2_with fail))
              refine hK.out _ _ (by exact (other_blk (grown_set _ _ _ _) (by omega) (lt_of_blk ((other_blk (grown_set _ _ _ _) (by omega) (lt_of_blk hHeld)).trans hHeld))).trans ((other_blk (grown_set _ _ _ _) (by omega) (lt_of_blk hHeld)).trans hHeld)) (fun hHeld => ?_)
              clear hK K
              try simp only [Act.put, List.setIfInBounds_toArray, List.set_cons_zero, List.set_cons_succ]
              refine' text_chunk 1 (by kernel_rfl) hHeld ?ck10 ?cr10
              case ck10 =>
                intro W hSw
                have hSW := hSw
                try dsimp only at hSW
                clear hSw
                obtain ⟨d0, d1⟩ := cells2 hSW
                simp only [List.take_succ_cons, List.take_zero, List.drop_succ_cons, List.drop_zero]
                repeat (go_big_quiet_step (fail))
                exact wpQuiet_nil rfl
              simp only [List.take_succ_cons, List.take_zero, List.drop_succ_cons, List.drop_zero]
              refine text_done ?_
              clear hHeld q0 q1 f0 f1
              obtain ⟨Z, hZ⟩ : ∃ Z, Z = ((X.setCell ⟨w.heap.size + 1 + 1, 0, none⟩ (.slice (some ⟨gs, 0, none⟩) lw caps)).setCell ⟨w.heap.size + 1 + 1, 1, none⟩ (.int .i64 (k : Int))).drew := ⟨_, rfl⟩
              have HZB := Lib.hid (show Z.heap[w.heap.size + 1 + 1]? = some (.cells #[.slice (some ⟨gs, 0, none⟩) lw caps, .int .i64 (k : Int)] 60 (0, 0)) from by rw [hZ]; exact hs2.out)
              have HZO := Lib.hid (show ∀ (g : Nat) (ob : Obj), g ≠ w.heap.size + 1 + 1 → X.heap[g]? = some ob → Z.heap[g]? = some ob from fun g ob hg ho => by
                rw [hZ]
                have h1 : (X.setCell ⟨w.heap.size + 1 + 1, 0, none⟩ (.slice (some ⟨gs, 0, none⟩) lw caps)).heap[g]? = some ob := (other_blk (grown_set _ _ _ _) hg (lt_of_blk ho)).trans ho
                exact (other_blk (grown_set _ _ _ _) hg (lt_of_blk h1)).trans h1)
              have HZK := Lib.hid (show KeepT [bn] w.heap.size 0 w Z from by rw [hZ]; exact ((HKBT.out.set_in (.inr (by omega)) _ _).set_in (.inr (by omega)) _ _).drew)
              have HZM := Lib.hid (show Marks (bf + 1) dsn Z from by
                obtain ⟨Ds, m1, m2, m3⟩ := HMKT.out
                exact ⟨Ds, m1, m2, fun D hD => ⟨(m3 D hD).1, HZO.out _ _ (by have := (m3 D hD).1; omega) (m3 D hD).2⟩⟩)
              have HZN := Lib.hid (show NetB Z bn W H (.slice aw nw cw) (.slice ak nk ck) mo st'.rd from ⟨HNTT.out.len, HZO.out _ _ (by omega) HNTT.out.blk⟩)
              have HZR := Lib.hid (show Row3 Z (.slice (some ⟨gs, 0, none⟩) lw caps) (natI ws) from HROWT.out.stay (fun g cs hg => HZO.out g _ (fun e => by rw [e, HB2T.out] at hg; cases hg) hg))
              rw [← hZ]
              clear hZ
              go_wp2
              refine marks_leaveJ (base := bf + 1) (fun Y => Y.heap[w.heap.size + 1 + 1]? = some (.cells #[.slice (some ⟨gs, 0, none⟩) lw caps, .int .i64 (k : Int)] 60 (0, 0)) ∧ NetB Y bn W H (.slice aw nw cw) (.slice ak nk ck) mo st'.rd ∧ KeepT [bn] w.heap.size 0 w Y ∧ Row3 Y (.slice (some ⟨gs, 0, none⟩) lw caps) (natI ws)) ?_ _ _ _ (by simp) ⟨HZB.out, HZN.out, HZK.out, HZR.out⟩ HZM.out (fun W' hj => ?_)
              · rintro Y D ⟨j1, j2, j3, j4⟩ hD hY
                have hg := grownBy_putObj' Y D (.deferred none)
                have hr : ∀ r, some D = some r → w.heap.size ≤ r ∧ ∃ o : Obj, Y.heap[r]? = some o ∧ o.isCells = false := fun r e => by cases e; exact ⟨by omega, _, hY, rfl⟩
                exact ⟨cells_turn j1 hg hr, j2.turn hg hr, j3.grown_in hg (fun g e => .inr (by cases e; omega)), j4.stay (Stay3.turn hg hr)⟩
              · obtain ⟨j1, j2, j3, j4⟩ := hj
                obtain ⟨r0, r1⟩ := cells2 j1
                refine ⟨_, by first | (simp [results, Tryz.results81, go_sem, r0, r1]; done) | (simp [results, Tryz.results81, go_sem, r0, r1]; rfl), ?_⟩
                refine ⟨⟨_, _, _, _, _, rfl, ?_⟩, ?_, j3⟩
                · rw [← HR0.out, HRES.out]
                  refine ⟨?_, j4, rfl⟩
                  exact decide_eq_true (by omega)
                · rw [← HR0.out, HRES.out]; exact j2
          · have hres : R0 = (st, some (ws, none)) := by
              rw [← hsr.out]; unfold srch; rw [HWI.out]; dsimp only; rw [HKP.out]; rfl
            have HRES := Lib.hid hres
            clear hres
            obtain ⟨d0, d1⟩ := cells2 BW3.out
            obtain ⟨z0, z1⟩ := cells2 BF3.out
            have y0 := frozen_of_blk BF3.out 0
            have y1 := frozen_of_blk BF3.out 1
            have hnbw : bw ≠ bf := by omega
            go_upto_region 25 with fail
            obtain ⟨X4, hX4⟩ : ∃ X4, X4 = (Y3.setCell ⟨bf, 0, none⟩ (.slice (some ⟨gs, 0, none⟩) lw caps)).setCell ⟨bf, 1, none⟩ (.int .i64 (-1)) := ⟨_, rfl⟩
            have HBFT := Lib.hid (show X4.heap[bf]? = some (.cells #[.slice (some ⟨gs, 0, none⟩) lw caps, .int .i64 (-1)] 60 (0, 0)) from by rw [hX4]; exact set2 BF3.out _ _)
            have o4 : ∀ (g : Nat) (ob : Obj), g ≠ bf → Y3.heap[g]? = some ob → X4.heap[g]? = some ob := fun g ob hg ho => by
              rw [hX4]
              have h1 := (other_blk (grown_set Y3 bf 0 (.slice (some ⟨gs, 0, none⟩) lw caps)) hg (lt_of_blk ho)).trans ho
              exact (other_blk (grown_set _ _ _ _) hg (lt_of_blk h1)).trans h1
            have HB2T := Lib.hid (o4 _ _ (by omega) B23.out)
            have HKBT := Lib.hid (show KeepT [bn] w.heap.size 0 w X4 from by rw [hX4]; exact ((KB1.out.trans (KeepT.ext HY3.out)).set_in (.inr (by omega)) _ _).set_in (.inr (by omega)) _ _)
            have HMKT := Lib.hid (show Marks (bf + 1) ds X4 from by
              obtain ⟨Ds, m1, m2, m3⟩ := MK1.out.keepT (rs := []) (b := 0) (e := 0) (KeepT.ext HY3.out) (by simp)
              exact ⟨Ds, m1, m2, fun D hD => ⟨(m3 D hD).1, o4 _ _ (by have := (m3 D hD).1; omega) (m3 D hD).2⟩⟩)
            have HNTT := Lib.hid (show NetB X4 bn W H (.slice aw nw cw) (.slice ak nk ck) mo st.rd from ⟨NT1.out.len, o4 _ _ (by omega) (NT1.out.ext HY3.out).blk⟩)
            have HROWT := Lib.hid (show Row3 X4 (.slice (some ⟨gs, 0, none⟩) lw caps) (natI ws) from (ROW1.out.stay (Stay3.ext HY3.out)).stay (fun g cs hg => o4 g _ (fun e => by rw [e, BF3.out] at hg; cases hg) hg))
            rw [← hX4]
            clear hX4 o4 d0 d1 z0 z1 y0 y1
            refine wp_region_order (fun Y : World => Y.heap[bf]? = some (.cells #[.slice (some ⟨gs, 0, none⟩) lw caps, .int .i64 (-1)] 60 (0, 0))) [0, 1, 2, 3, 4, 5, 6] (by kernel_rfl) (by kernel_rfl) (by exact HBFT.out) (fun hHeld => ?_)
            simp only [opsIn, List.filterMap_cons, List.filterMap_nil, List.getElem?_toArray, List.getElem?_cons_succ, List.getElem?_cons_zero]
            refine' text_chunk 3 (by kernel_rfl) hHeld ?ck1 ?cr1
            case ck1 =>
              intro W hSw
              have hSW := hSw
              try dsimp only at hSW
              clear hSw
              obtain ⟨d0, d1⟩ := cells2 hSW
              simp only [List.take_succ_cons, List.take_zero, List.drop_succ_cons, List.drop_zero]
              repeat (go_big_quiet_step (fail))
              exact wpQuiet_nil rfl
            simp only [List.take_succ_cons, List.take_zero, List.drop_succ_cons, List.drop_zero]
            refine' text_take (by rfl) (by rfl) ?ck2 ?cr2
            case ck2 => (intro W hSw; (try dsimp only at hSw); go_simp; all_goals with_reducible rfl)
            try simp only [Act.put, List.setIfInBounds_toArray, List.set_cons_zero, List.set_cons_succ]
            refine' text_chunk 1 (by kernel_rfl) hHeld ?ck3 ?cr3
            case ck3 =>
              intro W hSw
              have hSW := hSw
              try dsimp only at hSW
              clear hSw
              obtain ⟨d0, d1⟩ := cells2 hSW
              simp only [List.take_succ_cons, List.take_zero, List.drop_succ_cons, List.drop_zero]
              repeat (go_big_quiet_step (fail))
              exact wpQuiet_nil rfl
            simp only [List.take_succ_cons, List.take_zero, List.drop_succ_cons, List.drop_zero]
            obtain ⟨q0, q1⟩ := cells2 HB2T.out
            have f0 := frozen_of_blk HB2T.out 0
            have f1 := frozen_of_blk HB2T.out 1
            have hs2 := Lib.hid (set2 (X := X4) HB2T.out (.slice (some ⟨gs, 0, none⟩) lw caps) (.int .i64 (-1)))
            refine text_call (by rfl) (by rfl) (fun K hK => ?_)
            go_simp
            all_goals (try (go_wp2_with fail))
            refine hK.out _ _ (by exact (other_blk (grown_set _ _ _ _) (by omega) (lt_of_blk ((other_blk (grown_set _ _ _ _) (by omega) (lt_of_blk hHeld)).trans hHeld))).trans ((other_blk (grown_set _ _ _ _) (by omega) (lt_of_blk hHeld)).trans hHeld)) (fun hHeld => ?_)
            clear hK K
            try simp only [Act.put, List.setIfInBounds_toArray, List.set_cons_zero, List.set_cons_succ]
            refine' text_chunk 1 (by kernel_rfl) hHeld ?ck4 ?cr4
            case ck4 =>
              intro W hSw
              have hSW := hSw
              try dsimp only at hSW
              clear hSw
              obtain ⟨d0, d1⟩ := cells2 hSW
              simp only [List.take_succ_cons, List.take_zero, List.drop_succ_cons, List.drop_zero]
              repeat (go_big_quiet_step (fail))
              exact wpQuiet_nil rfl
            simp only [List.take_succ_cons, List.take_zero, List.drop_succ_cons, List.drop_zero]
            refine text_done ?_
            clear hHeld q0 q1 f0 f1
            obtain ⟨Z, hZ⟩ : ∃ Z, Z = ((X4.setCell ⟨w.heap.size + 1 + 1, 0, none⟩ (.slice (some ⟨gs, 0, none⟩) lw caps)).setCell ⟨w.heap.size + 1 + 1, 1, none⟩ (.int .i64 (-1))).drew := ⟨_, rfl⟩
            have HZB := Lib.hid (show Z.heap[w.heap.size + 1 + 1]? = some (.cells #[.slice (some ⟨gs, 0, none⟩) lw caps, .int .i64 (-1)] 60 (0, 0)) from by rw [hZ]; exact hs2.out)
            have HZO := Lib.hid (show ∀ (g : Nat) (ob : Obj), g ≠ w.heap.size + 1 + 1 → X4.heap[g]? = some ob → Z.heap[g]? = some ob from fun g ob hg ho => by
              rw [hZ]
              have h1 : (X4.setCell ⟨w.heap.size + 1 + 1, 0, none⟩ (.slice (some ⟨gs, 0, none⟩) lw caps)).heap[g]? = some ob := (other_blk (grown_set _ _ _ _) hg (lt_of_blk ho)).trans ho
              exact (other_blk (grown_set _ _ _ _) hg (lt_of_blk h1)).trans h1)
            have HZK := Lib.hid (show KeepT [bn] w.heap.size 0 w Z from by rw [hZ]; exact ((HKBT.out.set_in (.inr (by omega)) _ _).set_in (.inr (by omega)) _ _).drew)
            have HZM := Lib.hid (show Marks (bf + 1) ds Z from by
              obtain ⟨Ds, m1, m2, m3⟩ := HMKT.out
              exact ⟨Ds, m1, m2, fun D hD => ⟨(m3 D hD).1, HZO.out _ _ (by have := (m3 D hD).1; omega) (m3 D hD).2⟩⟩)
            have HZN := Lib.hid (show NetB Z bn W H (.slice aw nw cw) (.slice ak nk ck) mo st.rd from ⟨HNTT.out.len, HZO.out _ _ (by omega) HNTT.out.blk⟩)
            have HZR := Lib.hid (show Row3 Z (.slice (some ⟨gs, 0, none⟩) lw caps) (natI ws) from HROWT.out.stay (fun g cs hg => HZO.out g _ (fun e => by rw [e, HB2T.out] at hg; cases hg) hg))
            rw [← hZ]
            clear hZ
            go_wp2
            refine marks_leaveJ (base := bf + 1) (fun Y => Y.heap[w.heap.size + 1 + 1]? = some (.cells #[.slice (some ⟨gs, 0, none⟩) lw caps, .int .i64 (-1)] 60 (0, 0)) ∧ NetB Y bn W H (.slice aw nw cw) (.slice ak nk ck) mo st.rd ∧ KeepT [bn] w.heap.size 0 w Y ∧ Row3 Y (.slice (some ⟨gs, 0, none⟩) lw caps) (natI ws)) ?_ _ _ _ (by simp) ⟨HZB.out, HZN.out, HZK.out, HZR.out⟩ HZM.out (fun W' hj => ?_)
            · rintro Y D ⟨j1, j2, j3, j4⟩ hD hY
              have hg := grownBy_putObj' Y D (.deferred none)
              have hr : ∀ r, some D = some r → w.heap.size ≤ r ∧ ∃ o : Obj, Y.heap[r]? = some o ∧ o.isCells = false := fun r e => by cases e; exact ⟨by omega, _, hY, rfl⟩
              exact ⟨cells_turn j1 hg hr, j2.turn hg hr, j3.grown_in hg (fun g e => .inr (by cases e; omega)), j4.stay (Stay3.turn hg hr)⟩
            · obtain ⟨j1, j2, j3, j4⟩ := hj
              obtain ⟨r0, r1⟩ := cells2 j1
              refine ⟨_, by first | (simp [results, Tryz.results81, go_sem, r0, r1]; done) | (simp [results, Tryz.results81, go_sem, r0, r1]; rfl), ?_⟩
              refine ⟨⟨_, _, _, _, _, rfl, ?_⟩, ?_, j3⟩
              · rw [← HR0.out, HRES.out]
                refine ⟨?_, j4, rfl⟩
                exact decide_eq_true (by omega)
              · rw [← HR0.out, HRES.out]; exact j2
        · have hres : R0 = (st, none) := by
            have hn : st.ways[i]? = none := List.getElem?_eq_none (by rw [← HLL.out]; omega)
            rw [← hsr.out]
            cases N with
            | zero => rfl
            | succ M => unfold srch; rw [hn]
          have HRES := Lib.hid hres
          clear hres
          have HBFT := hbf; have HB2T := hb2; have HKBT := hkb; have HMKT := hmk; have HNTT := hnt
          go_upto_region 25 with fail
          refine wp_region_order (fun Y : World => Y.heap[bf]? = some (.cells #[.slice none 0 0, .int .i64 0] 60 (0, 0))) [0, 1, 2, 3, 4, 5, 6] (by kernel_rfl) (by kernel_rfl) (by exact HBFT.out) (fun hHeld => ?_)
          simp only [opsIn, List.filterMap_cons, List.filterMap_nil, List.getElem?_toArray, List.getElem?_cons_succ, List.getElem?_cons_zero]
          refine' text_chunk 3 (by kernel_rfl) hHeld ?ck11 ?cr11
          case ck11 =>
            intro W hSw
            have hSW := hSw
            try dsimp only at hSW
            clear hSw
            obtain ⟨d0, d1⟩ := cells2 hSW
            simp only [List.take_succ_cons, List.take_zero, List.drop_succ_cons, List.drop_zero]
            repeat (go_big_quiet_step (fail))
            exact wpQuiet_nil rfl
          simp only [List.take_succ_cons, List.take_zero, List.drop_succ_cons, List.drop_zero]
          refine' text_take (by rfl) (by rfl) ?ck12 ?cr12
          case ck12 => (intro W hSw; (try dsimp only at hSw); go_simp; all_goals with_reducible rfl)
          try simp only [Act.put, List.setIfInBounds_toArray, List.set_cons_zero, List.set_cons_succ]
          refine' text_chunk 1 (by kernel_rfl) hHeld ?ck13 ?cr13
          case ck13 =>
            intro W hSw
            have hSW := hSw
            try dsimp only at hSW
            clear hSw
            obtain ⟨d0, d1⟩ := cells2 hSW
            simp only [List.take_succ_cons, List.take_zero, List.drop_succ_cons, List.drop_zero]
            repeat (go_big_quiet_step (fail))
            exact wpQuiet_nil rfl
          simp only [List.take_succ_cons, List.take_zero, List.drop_succ_cons, List.drop_zero]
          obtain ⟨q0, q1⟩ := cells2 HB2T.out
          have f0 := frozen_of_blk HB2T.out 0
          have f1 := frozen_of_blk HB2T.out 1
          have hs2 := Lib.hid (set2 (X := X) HB2T.out (.slice none 0 0) (.int .i64 0))
          refine text_call (by rfl) (by rfl) (fun K hK => ?_)
          go_simp
          all_goals (try (go_wp2_with fail))
          refine hK.out _ _ (by exact (other_blk (grown_set _ _ _ _) (by omega) (lt_of_blk ((other_blk (grown_set _ _ _ _) (by omega) (lt_of_blk hHeld)).trans hHeld))).trans ((other_blk (grown_set _ _ _ _) (by omega) (lt_of_blk hHeld)).trans hHeld)) (fun hHeld => ?_)
          clear hK K
          try simp only [Act.put, List.setIfInBounds_toArray, List.set_cons_zero, List.set_cons_succ]
          refine' text_chunk 1 (by kernel_rfl) hHeld ?ck14 ?cr14
          case ck14 =>
            intro W hSw
            have hSW := hSw
            try dsimp only at hSW
            clear hSw
            obtain ⟨d0, d1⟩ := cells2 hSW
            simp only [List.take_succ_cons, List.take_zero, List.drop_succ_cons, List.drop_zero]
            repeat (go_big_quiet_step (fail))
            exact wpQuiet_nil rfl
          simp only [List.take_succ_cons, List.take_zero, List.drop_succ_cons, List.drop_zero]
          refine text_done ?_
          clear hHeld q0 q1 f0 f1
          obtain ⟨Z, hZ⟩ : ∃ Z, Z = ((X.setCell ⟨w.heap.size + 1 + 1, 0, none⟩ (.slice none 0 0)).setCell ⟨w.heap.size + 1 + 1, 1, none⟩ (.int .i64 0)).drew := ⟨_, rfl⟩
          have HZB := Lib.hid (show Z.heap[w.heap.size + 1 + 1]? = some (.cells #[.slice none 0 0, .int .i64 0] 60 (0, 0)) from by rw [hZ]; exact hs2.out)
          have HZO := Lib.hid (show ∀ (g : Nat) (ob : Obj), g ≠ w.heap.size + 1 + 1 → X.heap[g]? = some ob → Z.heap[g]? = some ob from fun g ob hg ho => by
            rw [hZ]
            have h1 : (X.setCell ⟨w.heap.size + 1 + 1, 0, none⟩ (.slice none 0 0)).heap[g]? = some ob := (other_blk (grown_set _ _ _ _) hg (lt_of_blk ho)).trans ho
            exact (other_blk (grown_set _ _ _ _) hg (lt_of_blk h1)).trans h1)
          have HZK := Lib.hid (show KeepT [bn] w.heap.size 0 w Z from by rw [hZ]; exact ((HKBT.out.set_in (.inr (by omega)) _ _).set_in (.inr (by omega)) _ _).drew)
          have HZM := Lib.hid (show Marks (bf + 1) ds Z from by
            obtain ⟨Ds, m1, m2, m3⟩ := HMKT.out
            exact ⟨Ds, m1, m2, fun D hD => ⟨(m3 D hD).1, HZO.out _ _ (by have := (m3 D hD).1; omega) (m3 D hD).2⟩⟩)
          have HZN := Lib.hid (show NetB Z bn W H (.slice aw nw cw) (.slice ak nk ck) mo st.rd from ⟨HNTT.out.len, HZO.out _ _ (by omega) HNTT.out.blk⟩)
          rw [← hZ]
          clear hZ
          go_wp2
          refine marks_leaveJ (base := bf + 1) (fun Y => Y.heap[w.heap.size + 1 + 1]? = some (.cells #[.slice none 0 0, .int .i64 0] 60 (0, 0)) ∧ NetB Y bn W H (.slice aw nw cw) (.slice ak nk ck) mo st.rd ∧ KeepT [bn] w.heap.size 0 w Y) ?_ _ _ _ (by simp) ⟨HZB.out, HZN.out, HZK.out⟩ HZM.out (fun W' hj => ?_)
          · rintro Y D ⟨j1, j2, j3⟩ hD hY
            have hg := grownBy_putObj' Y D (.deferred none)
            have hr : ∀ r, some D = some r → w.heap.size ≤ r ∧ ∃ o : Obj, Y.heap[r]? = some o ∧ o.isCells = false := fun r e => by cases e; exact ⟨by omega, _, hY, rfl⟩
            exact ⟨cells_turn j1 hg hr, j2.turn hg hr, j3.grown_in hg (fun g e => .inr (by cases e; omega))⟩
          · obtain ⟨j1, j2, j3⟩ := hj
            obtain ⟨r0, r1⟩ := cells2 j1
            refine ⟨_, by first | (simp [results, Tryz.results81, go_sem, r0, r1]; done) | (simp [results, Tryz.results81, go_sem, r0, r1]; rfl), ?_⟩
            refine ⟨⟨_, _, _, _, _, rfl, ?_⟩, ?_, j3⟩
            · rw [← HR0.out, HRES.out]
            · rw [← HR0.out, HRES.out]; exact j2
end Go.Proofs.YtppjnpempgpkaaaGreat
