/- The iterator telling: what it yields. -/
import Derived.Test.YtlgdnbpboonhdaaW1
import Derived.WalkMore
namespace Go.Proofs.Ytlgdnbpboonhdaa
open Go.RowKit Go.Shelf Go.Maps
set_option linter.unusedVariables false
attribute [local go_sem] Oper.semAt_some
theorem telling73 (b : Nat) (i : Int) (w : World) : Calls Try.prog 73 #[.pointer (some ⟨b, 0, none⟩), .int .i64 i] w fun e w' =>
    e = .returned (.func (.func 99) #[] #[.pointer (some ⟨w.heap.size, 0, none⟩), .pointer (some ⟨w.heap.size + 1, 0, none⟩)]) ∧ w' = (w.alloc (.cells #[.pointer (some ⟨b, 0, none⟩)] 63)).alloc (.cells #[.int .i64 i] 3) := by
  go_enter Try.func73, Try.ntmps73
  go_wp2
  go_ret
  exact ⟨rfl, rfl⟩
/-- No other owner's mark has all of a set. -/
def othB (ms : List Nat) (i x : Nat) : Bool := (List.range ms.length).all fun k => k == i || !sub x (mAt ms k)
def tellP (ms : List Nat) (S i : Nat) (ys : List (SubOf (mAt ms i))) : List (SubOf (mAt ms i)) := ys.filter fun x => othB ms i x.1
theorem tellP_snoc (ms : List Nat) (S i : Nat) (ys : List (SubOf (mAt ms i))) (x : SubOf (mAt ms i)) : tellP ms S i (ys ++ [x]) = if othB ms i x.1 = true then tellP ms S i ys ++ [x] else tellP ms S i ys := by
  unfold tellP
  rw [List.filter_append]
  by_cases h : othB ms i x.1 = true
  · simp [h]
  · simp [h]
theorem tellP_vals (ms : List Nat) (S i : Nat) (ys : List (SubOf (mAt ms i))) : vals (mAt ms i) (tellP ms S i ys) = (vals (mAt ms i) ys).filter (othB ms i) := by
  unfold tellP vals
  rw [List.filter_map]
  rfl
theorem tellP_len (ms : List Nat) (S i : Nat) (ys : List (SubOf (mAt ms i))) : (tellP ms S i ys).length ≤ ys.length := List.length_filter_le _ _
theorem RoundIn.any {m m' l l0 : Nat} {P : Program} {f : FuncId} {tmps : Array Value} {assign body : Code} {w : World} {R : Ending → World → Prop} (h : RoundIn Fence.wide m P l f tmps assign body w R) : RoundIn (Fence.wide.inRound l0) m' P l f tmps assign body w R :=
  ⟨h.1, fun c cs hr => h.2 c cs (by simp [Fence.room, Fence.wide])⟩
set_option maxRecDepth 100000 in
set_option maxHeartbeats 8000000 in
theorem telling99 (n Br Bo b S L i : Nat) (ms : List Nat) (v : Value) (w0 w : World) (rs : List Nat) (hn : 3 ≤ n) (hv : Valid S L ms) (hr : RegAt w0 b S L v ms) (hi : i < ms.length) (hBr : Boxed w0 Br 63 (.pointer (some ⟨b, 0, none⟩))) (hBo : Boxed w0 Bo 3 (.int .i64 (i : Int)))
    (hw0 : Ext w0 w) (hrs : ∀ r ∈ rs, w0.heap.size ≤ r ∧ r < w.heap.size) :
    SeqAny n 99 #[.pointer (some ⟨Br, 0, none⟩), .pointer (some ⟨Bo, 0, none⟩)] (encS (mAt ms i)) (KeepBut rs) (fun ys => vals (mAt ms i) ys = (wornL (mAt ms i) S).filter (othB ms i)) 1024 w := by
  intro l J W hW hJ hY h0
  obtain ⟨hl, a, cap, rfl⟩ := hr.2.shape
  have hW0 : Ext w0 W := hw0.trans hW
  obtain ⟨⟨h1, h2, h3⟩, hvv⟩ := hr.ext hW0
  have c1 := Boxed.cell (block_ext hW0 hBr)
  have c2 := Boxed.cell (block_ext hW0 hBo)
  have hmi : ms[i]? = some (mAt ms i) := by simp [mAt, hi]
  obtain ⟨b1, off, rfl, hl2, hcy⟩ := hvv.atN hmi
  rw [ints_length] at *
  have hka : (0 : Int) ≤ (i : Int) := by omega
  have hkb : (i : Int) < (ms.length : Int) := by omega
  refine callsIn_of_wp_marks Try.func99 rfl trivial ?_ rfl
  simp only [Try.ntmps99, List.size_toArray, List.length_cons, List.length_nil, Nat.reduceAdd, Nat.reduceSub, Array.replicate_succ, Array.replicate_zero, List.push_toArray, List.append_toArray, List.nil_append, List.cons_append]
  have HY := Lib.hid hY; have HJ := Lib.hid hJ; have H0 := Lib.hid h0; have HRS := Lib.hid hrs; have HV := Lib.hid hv; have HREG := Lib.hid (hr.ext hW0)
  have l1 := lt_of_cell hr.1.1; have l2 := hBr.lt; have l3 := hBo.lt
  have l4 : b1 < w0.heap.size := by
    obtain ⟨b1', off', e, -, hc0⟩ := hr.2.atN hmi
    cases e; exact lt_of_cell hc0
  have l5 := hw0.size; have l6 := hW.size
  clear hJ hY h0 hr hBr hBo hrs hv
  have hmix : Try.prog.follows .mixedOrders = true := by kernel_rfl
  gi_wp2
  refine wpIn_wide.2 (wp_scope_straight ((wpIn_wide (n := n)).1 ?_))
  gi_wp2
  apply wpIn_label
  gi_wp2
  gi_wp2
  refine wpIn_wide.2 ?_
  refine wp_region_still_tail 13 hmix (by kernel_rfl) ?_
  simp only [List.take_succ_cons, List.take_zero, List.drop_succ_cons, List.drop_zero]
  have hE1 : Ext W (World.drew (W.alloc (.cells #[.func (.yield l) #[] #[]] 71))) := ((Ext.refl W).alloc _).drew
  have hy1 : Boxed (World.drew (W.alloc (.cells #[.func (.yield l) #[] #[]] 71))) W.heap.size 71 (.func (.yield l) #[] #[]) := Boxed.new W 71 _
  have hz1 : (World.drew (W.alloc (.cells #[.func (.yield l) #[] #[]] 71))).heap.size = W.heap.size + 1 := by simp [World.drew]
  generalize hW1 : World.drew (W.alloc (.cells #[.func (.yield l) #[] #[]] 71)) = W1 at hE1 hy1 hz1
  have hW2 : ({ heap := (W.alloc (.cells #[.func (.yield l) #[] #[]] 71)).heap, tape := (W.alloc (.cells #[.func (.yield l) #[] #[]] 71)).tape, drawn := (W.alloc (.cells #[.func (.yield l) #[] #[]] 71)).drawn + 1, os := (W.alloc (.cells #[.func (.yield l) #[] #[]] 71)).os, output := (W.alloc (.cells #[.func (.yield l) #[] #[]] 71)).output } : World) = W1 := hW1
  rw [hW2]
  have c1 := cell_ext hE1 c1
  have c2 := cell_ext hE1 c2
  have h1 := cell_ext hE1 h1
  have h2 := cell_ext hE1 h2
  have h3 := cell_ext hE1 h3
  have hcy := cell_ext hE1 hcy
  have HZ1 := Lib.hid hz1
  clear hW1 hW2 hz1
  repeat still_step
  refine wpStill_nil ?_
  go_wp2_with (go_at_call 98; refine (worn98 (mAt ms i) S _).mono ?_; rintro e w2 ⟨rfl, rfl⟩)
  have bM := (Boxed.new W1 3 (.int .i64 (mAt ms i : Int))).alloc (.cells #[.int .i64 (S : Int)] 3)
  have bL := Boxed.new (W1.alloc (.cells #[.int .i64 (mAt ms i : Int)] 3)) 3 (.int .i64 (S : Int))
  have hE2 : Ext W1 ((W1.alloc (.cells #[.int .i64 (mAt ms i : Int)] 3)).alloc (.cells #[.int .i64 (S : Int)] 3)) := ((Ext.refl _).alloc _).alloc _
  have hsz2 : ((W1.alloc (.cells #[.int .i64 (mAt ms i : Int)] 3)).alloc (.cells #[.int .i64 (S : Int)] 3)).heap.size = W1.heap.size + 2 := by simp
  simp only [World.size_alloc] at bL
  obtain ⟨W0, hW0'⟩ : ∃ W0, (W1.alloc (.cells #[.int .i64 (mAt ms i : Int)] 3)).alloc (.cells #[.int .i64 (S : Int)] 3) = W0 := ⟨_, rfl⟩
  rw [hW0'] at bM bL hE2 hsz2 ⊢
  clear hW0'
  have hy2 : Boxed W0 W.heap.size 71 (.func (.yield l) #[] #[]) := block_ext hE2 hy1
  have c1 := cell_ext hE2 c1
  have c2 := cell_ext hE2 c2
  have h1 := cell_ext hE2 h1
  have h2 := cell_ext hE2 h2
  have h3 := cell_ext hE2 h3
  have hvv2 := hvv.ext (hE1.trans hE2)
  have hm1024 : mAt ms i < 1024 := HV.out.lt hmi
  have hJ0 : J (tellP ms S i []) W0 := HJ.out [] W W0 none H0.out (grown_ext (hE1.trans hE2) none) (fun r e => by cases e)
  gi_wp2
  refine wpIn_rangeFunc_ownH rfl (by omega) (gf := 107) (lb := #[.pointer (some ⟨W1.heap.size, 0, none⟩), .pointer (some ⟨W1.heap.size + 1, 0, none⟩)]) rfl trivial (enters_of Try.func107 (by kernel_rfl) rfl)
    (worn_stops (n - 1) W1.heap.size (W1.heap.size + 1) 0 (mAt ms i) S hm1024 (by omega) W0 bM.cell bL.cell) Kp2.trans (kp2_b (by omega) (by simp; omega)) (Below.refl _ _) (fun _ => rfl)
    (fun pre X => J (tellP ms S i pre) X ∧ KeepBut rs W0 X)
    (fun _ _ _ => False)
    ?hI (fun _ _ _ _ _ h _ _ => h) ⟨hJ0, KeepBut.refl _ _⟩
    (fun x a' X => a' = { tmps := #[.func (.yield l) #[] #[], .pointer (some ⟨Br, 0, none⟩), .pointer (some ⟨Bo, 0, none⟩), .pointer (some ⟨W.heap.size, 0, none⟩), .int .i64 (x.1 : Int), undef, undef, .pointer (some ⟨b, 0, none⟩), .pointer (some ⟨b, 0, none⟩), .pointer (some ⟨b, 0, none⟩), .pointer (some ⟨b, 2, none⟩), .slice (some ⟨b1, off, none⟩) ms.length cap,
      .int .i64 (i : Int), .pointer (some ⟨b1, off + i, none⟩), .int .i64 (mAt ms i : Int), .pointer (some ⟨b, 0, none⟩), .pointer (some ⟨b, 0, none⟩), .pointer (some ⟨b, 0, none⟩), .pointer (some ⟨b, 0, none⟩), .int .i64 (S : Int),
      .func (.func 107) #[] #[.pointer (some ⟨W1.heap.size, 0, none⟩), .pointer (some ⟨W1.heap.size + 1, 0, none⟩)], .int .i64 (x.1 : Int), undef, undef, undef, undef, undef, undef, undef, undef, undef, undef, undef, undef, undef, undef, undef, undef, undef, undef, undef, undef, undef, undef, undef, undef], defers := [] })
    ?hAx ?assign ?body ?done ?stop
  case hI => exact OwnFrom.and (fun s A B row hs hg hr => HJ.out _ A B row hs hg (fun r e => ⟨by have := (hr r e).1; have := HZ1.out; omega, (hr r e).2⟩)) (ownFrom_keepBut (Nat.le_refl _))
  case hAx => exact fun x a' s A B row hs hg hr => hs
  case assign =>
    rintro l' pre x X K hI hK
    dsimp only [encS]
    gi_wp2
    exact hK _ _ (KeepsFrom.refl _ _) (Kp2.refl _ _ _) hI rfl
  case body =>
    rintro l' pre x A X hl' ⟨r, hrl⟩ ⟨hJX, hKX⟩ rfl hlt2
    obtain ⟨x, hx⟩ := x
    have nb : ∀ g, g < W.heap.size + 1 → ((g < w0.heap.size) ∨ g = W.heap.size) → g ∉ rs := fun g hg h hm => by
      have := HRS.out g hm
      rcases h with h | h <;> omega
    have c1 := hKX.cell (nb _ (by omega) (.inl l2)) c1
    have c2 := hKX.cell (nb _ (by omega) (.inl l3)) c2
    have h3 := hKX.cell (nb _ (by omega) (.inl l1)) h3
    have cy := hKX.cell (nb _ (by omega) (.inr rfl)) hy2.cell
    have hcell : ∀ k m : Nat, ms[k]? = some m → X.cell? ⟨b1, off + k, none⟩ = some (.int .i64 (m : Int)) := fun k m hk => by
      obtain ⟨b1', off', e, -, hc0⟩ := hvv2.atN hk
      cases e
      exact hKX.cell (nb _ (by omega) (.inl l4)) hc0
    have HC := Lib.hid hcell; have HKX := Lib.hid hKX; have HJX := Lib.hid hJX; have HRL := Lib.hid hrl
    have hx1024 : x < 1024 := by have := sub_le _ _ hx; omega
    clear hcell hKX hJX hrl h1 h2 hcy hvv hvv2 nb bM bL hy2 hy1 hE1 hE2 hJ0
    have hdep : 1 ≤ n - 1 - 1 := by omega
    dsimp only
    gi_wp2
    gi_loop [28] (fun j => ∃ k : Nat, k ≤ ms.length ∧ j = .int .i64 (k : Int) ∧ Hid (∀ k', k' < k → (k' == i || !sub x (mAt ms k')) = true)) (fun j => ms.length - (RowKit.intOf j).toNat)
    case atStart => exact ⟨0, Nat.zero_le _, rfl, fun k' h => absurd h (Nat.not_lt_zero _)⟩
    case round =>
      obtain ⟨k, hk, rfl, hall⟩ := hrel
      by_cases hlt : k < ms.length
      · have hmk : ms[k]? = some (mAt ms k) := by simp [mAt, hlt]
        have ck := HC.out k _ hmk
        have hkc : (0 : Int) ≤ (k : Int) := by omega
        have hkd : (k : Int) < (ms.length : Int) := by omega
        have HMK := Lib.hid hmk; clear hmk
        by_cases hki : k = i
        · have hbn : ((k : Int) != (i : Int)) = false := by simp [hki]
          have HKI := Lib.hid hki; clear hki
          gi_wp2
          refine ⟨trivial, ?_⟩
          gi_wp2
          go_round
          case rel => exact ⟨k + 1, by omega, by go_num, fun k' h => by
            rcases Nat.lt_succ_iff_lt_or_eq.1 h with h | h
            · exact hall.out k' h
            · subst h; simp [HKI.out]⟩
          case measure => simp [RowKit.intOf]; omega
        · have hbn : ((k : Int) != (i : Int)) = true := by simp; omega
          have hmk1024 := HV.out.lt HMK.out
          cases hsb : sub x (mAt ms k)
          · have h88 := contains_any (mAt ms k) x hmk1024 hx1024 X
            rw [hsb] at h88
            have H88 := Lib.hid h88; have HSB := Lib.hid hsb; clear h88 hsb
            gi_wp2_with (refine ⟨trivial, ?_⟩; gi_at_call 88; refine (CallsIn.inRound l' (callsIn_wide.2 H88.out)).mono ?_; rintro e w' ⟨rfl, rfl⟩)
            go_round
            case rel => exact ⟨k + 1, by omega, by go_num, fun k' h => by
              rcases Nat.lt_succ_iff_lt_or_eq.1 h with h | h
              · exact hall.out k' h
              · subst h; simp [HSB.out]⟩
            case measure => simp [RowKit.intOf]; omega
          · have h88 := contains_any (mAt ms k) x hmk1024 hx1024 X
            rw [hsb] at h88
            have hno : othB ms i x = false := List.all_eq_false.2 ⟨k, List.mem_range.2 hlt, by simp [hsb, hki]⟩
            have H88 := Lib.hid h88; have HNO := Lib.hid hno; clear h88 hsb hno
            gi_wp2_with (refine ⟨trivial, ?_⟩; gi_at_call 88; refine (CallsIn.inRound l' (callsIn_wide.2 H88.out)).mono ?_; rintro e w' ⟨rfl, rfl⟩)
            refine ⟨KeepsFrom.refl _ _, Kp2.refl _ _ _, ?_, HKX.out⟩
            rw [tellP_snoc, if_neg (by rw [HNO.out]; simp)]
            exact HJX.out
      · obtain rfl : k = ms.length := by omega
        have hyes : othB ms i x = true := List.all_eq_true.2 fun k' h => hall.out k' (List.mem_range.1 h)
        obtain ⟨fn, tmps, assign, body, hy, hR⟩ := HY.out (tellP ms S i pre) ⟨x, hx⟩ X HJX.out (Nat.lt_of_le_of_lt (tellP_len _ _ _ _) hlt2)
        have HR := Lib.hid (RoundIn.any (m' := n - 1 - 1 - 1) (l0 := l') hR)
        have HYES := Lib.hid hyes
        clear hR hyes
        dsimp only [encS] at hy
        gi_wp2_with (refine (HR.out).mono ?_; rintro e W5 ⟨rfl, hJ5, hK5⟩)
        have hsz5 : X.heap.size ≤ W5.heap.size := hK5.size
        have hszX := HKX.out.size
        have hb2 : ∀ r ∈ rs, r < W1.heap.size := fun r hr => by have := HRS.out r hr; have := HZ1.out; omega
        refine ⟨⟨hsz5, fun k o hk hX hc => ?_⟩, ⟨⟨hK5.os, hK5.tape, hK5.output, hsz5, fun k hk => absurd hk (Nat.not_lt_zero _)⟩, fun r hr => ?_⟩, ?_, HKX.out.trans hK5⟩
        · exact (hK5.block k (Array.getElem?_eq_some_iff.1 hX).1 (fun hm => by have := hb2 k hm; omega)).trans hX
        · have hr2 : W1.heap.size ≤ r ∧ r < W1.heap.size + 2 := by
            simp at hr; omega
          exact hK5.block r (by omega) (fun hm => by have := hb2 r hm; omega)
        · rw [tellP_snoc, if_pos HYES.out]
          exact hJ5
  case done =>
    rintro D ys X hD hS ⟨hJX, hKX⟩ hDW
    have hJ2 : J (tellP ms S i ys) (X.putObj D (.deferred none)) := HJ.out.putObj _ hJX (by have := HZ1.out; omega) hDW rfl
    have hS2 : vals (mAt ms i) (tellP ms S i ys) = (wornL (mAt ms i) S).filter (othB ms i) := by rw [tellP_vals, show vals (mAt ms i) ys = wornL (mAt ms i) S from hS]
    have HJ2 := Lib.hid hJ2; have HS2 := Lib.hid hS2; have HDW := Lib.hid hDW
    clear hJ2 hS2 hDW hJX hKX hS hJ0 bM bL
    gi_wp2
    rw [Exit.noGoto_normal]
    gi_wp2
    refine ⟨by simp, .inl ⟨_, _, rfl, run_takeDeferred HDW.out, ?_⟩⟩
    exact ⟨_, results_none rfl _ _ _, ⟨_, rfl⟩, _, HS2.out, HJ2.out⟩
  case stop =>
    rintro D c pre X _ _ h _
    exact h.elim
end Go.Proofs.Ytlgdnbpboonhdaa
