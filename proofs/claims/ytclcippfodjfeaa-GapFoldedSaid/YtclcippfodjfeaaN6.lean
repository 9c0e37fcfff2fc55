/- slices.Repeat of one number, by its contract. -/
import Derived.Test.YtclcippfodjfeaaN4
namespace Go.Proofs.Ytclcippfodjfeaa
open Go.RowKit Go.Shelf
set_option linter.unusedVariables false
set_option linter.unusedSimpArgs false
attribute [local go_sem] Oper.semAt_some
theorem mul_hi : ∀ k : Fin 31, IntKind.u64.wrap
            (IntKind.u64.wrap
                  (IntKind.u64.wrap
                      (IntKind.u64.wrap
                          (bits BinOp.and IntKind.u64 1 4294967295 * bits BinOp.and IntKind.u64 ((k.val : Nat) : Int) 4294967295) /
                        4294967296) /
                    4294967296) +
                IntKind.u64.wrap
                    (bits BinOp.and IntKind.u64
                        (IntKind.u64.wrap
                          (IntKind.u64.wrap
                              (bits BinOp.and IntKind.u64 1 4294967295 * bits BinOp.and IntKind.u64 ((k.val : Nat) : Int) 4294967295) /
                            4294967296))
                        4294967295 +
                      IntKind.u64.wrap (bits BinOp.and IntKind.u64 1 4294967295 * (((k.val : Nat) : Int) / 4294967296))) /
                  4294967296) = 0 := by decide +kernel
set_option maxRecDepth 100000 in
set_option maxHeartbeats 2000000 in
theorem mul100 (n : Nat) (hn : n ≤ 30) (w : World) : Calls Try.prog 100 #[.int .u64 1, .int .u64 (n : Int)] w fun e w' => e = .returned (.tuple #[.int .u64 0, .int .u64 (n : Int)]) ∧ w = w' := by
  have hz := mul_hi ⟨n, by omega⟩
  dsimp only at hz
  have HZ := Lib.hid hz; clear hz
  go_enter Try.func100, Try.ntmps100
  go_wp2
  go_ret2
  rw [HZ.out]
  exact ⟨rfl, rfl⟩
set_option maxRecDepth 100000 in
set_option maxHeartbeats 2000000 in
theorem mul91 (n : Nat) (hn : n ≤ 30) (w : World) : Calls Try.prog 91 #[.int .u64 1, .int .u64 (n : Int)] w fun e w' => e = .returned (.tuple #[.int .u64 0, .int .u64 (n : Int)]) ∧ w = w' := by
  have H := Lib.hid (mul100 n hn w)
  go_enter Try.func91, Try.ntmps91
  go_wp2_with fail
  refine H.out.mono ?_
  rintro e w' ⟨rfl, rfl⟩
  go_wp2
  go_ret2
  exact ⟨rfl, rfl⟩
theorem oper_copy {o : Oper} {a : Act} {K : Act → World → Prop} {Q : Exit → Act → World → Prop} {w w' : World} {v x v' : Value} (s u : Operand) (ho : o.op = .call { callee := .builtin .copy, args := #[s, u], argTypes := #[23, 23] }) (hs : a.eval s = v) (hu : a.eval u = x)
    (hrun : (Builtin.copy_ #[23, 23] o.type #[v, x]).run Try.prog w = .ok v' w') (h : K (a.put o.dst v') w') : Oper.wp Try.prog o a w K Q := by
  unfold Oper.wp execOp
  simp only [ho, resolve, invoke, builtin, Sem.run_bind, Sem.run_pure, Result.andThen_ok, List.map_toArray, List.map_cons, List.map_nil, hs, hu, hrun]
  exact h
/-- A list of which the first ones are laid. -/
def rp (n : Nat) (x : Int) (j : Nat) : List Int := List.replicate j x ++ List.replicate (n - j) 0
theorem size3 : (Try.prog.info? 3).map (·.size) = some 1 := by kernel_rfl
theorem rp_next (n : Nat) (x : Int) (j k : Nat) (h : j + k ≤ n) : (intC (rp n x j)).take j ++ List.replicate k (.int .i64 x) ++ (intC (rp n x j)).drop (j + k) = intC (rp n x (j + k)) := by
  unfold intC rp
  simp only [List.map_append, List.map_replicate]
  rw [List.take_left' (by simp), List.drop_append, List.drop_eq_nil_of_le (by simp), List.nil_append, List.length_replicate, show j + k - j = k by omega, List.drop_replicate, List.replicate_append_replicate, show n - j - k = n - (j + k) by omega]
theorem copy_rp (w : World) (g n j k : Nat) (x : Int) (a : Addr) (sLen sCap dCap : Nat) (h : ArrI w g 3 (rp n x j)) (hj : j + k ≤ n) (hk : k = Nat.min sLen (n - j)) (hsrc : ∀ i, i < k → w.cell? (a.add i) = some (.int .i64 x)) (ty : TypeId) :
    ∃ w', (Builtin.copy_ #[23, 23] ty #[.slice (some ⟨g, j, none⟩) (n - j) dCap, .slice (some a) sLen sCap]).run Try.prog w = .ok (.int .i64 (k : Int)) w' ∧ ArrI w' g 3 (rp n x (j + k)) ∧ Keep [g] 0 w w' := by
  have hrun := run_copy_row (P := Try.prog) w 23 23 ty 3 g j (n - j) dCap a sLen sCap (intC (rp n x j)).toArray 3 (List.replicate k (.int .i64 x)) Try.underlying23 size3 h (by simp [hk]) (fun i v hv => by
    rw [List.getElem?_replicate] at hv
    split at hv
    · rename_i hi; cases hv; exact hsrc i hi
    · cases hv) (by simp [intC, rp]; omega) (fun v hv => by rw [List.mem_replicate] at hv; rw [hv.2]; rfl)
  have hl : (goInt (List.replicate k (Value.int .i64 x)).length : Value) = .int .i64 (k : Int) := by rw [List.length_replicate]; rfl
  rw [hl] at hrun
  simp only [List.length_replicate] at hrun
  rw [rp_next n x j k hj] at hrun
  refine ⟨_, hrun, setRow_heap _ _ _ _ _ _ h, rfl, rfl, rfl, by simp, fun q hq hn => setRow_other _ _ _ _ (by simpa using hn), fun _ _ _ _ ho => by omega⟩
set_option maxRecDepth 100000 in
set_option maxHeartbeats 4000000 in
theorem repeat73 (b : Nat) (n : Nat) (hn : n ≤ 30) (x : Int) (w : World) (hx : w.cell? ⟨b, 0, none⟩ = some (.int .i64 x)) :
    Calls Try.prog 73 #[.slice (some ⟨b, 0, none⟩) 1 1, .int .i64 (n : Int)] w (OwnList w (List.replicate n x)) := by
  have H := Lib.hid (fun W => mul91 n hn W)
  have n0 : (0 : Int) ≤ (n : Int) := by omega
  have n1 : (n : Int) ≤ 30 := by omega
  have hmk := make23 n (by omega)
  obtain ⟨w1, hw1⟩ : ∃ w1, w1 = w.alloc (.cells (madeCells #[.int .i64 0] n) 3) := ⟨_, rfl⟩
  have hE1 : Ext w w1 := by rw [hw1]; exact (Ext.refl w).alloc _
  have hA1 : ArrI w1 w.heap.size 3 (rp n x 0) := by rw [hw1]; have := ArrI.made w n 3; simpa [rp] using this
  obtain ⟨k0, hk0⟩ : ∃ k, k = Nat.min 1 (n - 0) := ⟨_, rfl⟩
  have hkn : k0 ≤ n ∧ (n = 0 ∨ 1 ≤ k0) := by rw [hk0, Nat.sub_zero]; simp only [Nat.min_def]; split <;> omega
  obtain ⟨w2, hcp, hA2, hK2⟩ := copy_rp w1 w.heap.size n 0 k0 x ⟨b, 0, none⟩ 1 1 n hA1 (by omega) hk0 (fun i hi => by
    have : i = 0 := by have : k0 ≤ 1 := by rw [hk0]; exact Nat.min_le_left _ _
                       omega
    subst this
    rw [addr_add]; exact cell_ext hE1 hx) 3
  rw [Nat.zero_add] at hA2
  rw [Nat.sub_zero] at hcp
  have hE2 : Ext w w2 := Below.keep hE1 hK2 (by simp)
  have HA2 := Lib.hid hA2; have HE2 := Lib.hid hE2; have HX := Lib.hid hx
  subst hw1
  clear hA1 hA2 hK2 hE1 hE2 hk0 hx
  obtain ⟨kn1, kn2⟩ := hkn
  go_enter Try.func73, Try.ntmps73
  go_wp2_with fail
  refine (H.out _).mono ?_
  rintro e w' ⟨rfl, rfl⟩
  go_wp2
  clear hcp hmk
  go_loopw [8] (fun s wr => ∃ j : Nat, j ≤ n ∧ (n = 0 ∨ 1 ≤ j) ∧ s = .int .i64 (j : Int) ∧ Hid (ArrI wr w.heap.size 3 (rp n x j)) ∧ Hid (Ext w wr)) (fun s wr => n - (intV s).toNat)
  case atStart => exact ⟨k0, kn1, kn2, rfl, HA2, HE2⟩
  case round =>
    obtain ⟨j, hj, hj1, rfl, hA, hE⟩ := hrel
    by_cases hlt : j < n
    · have hd1 : decide ((j : Int) < (n : Int)) = true := decide_eq_true (by omega)
      have j0 : (0 : Int) ≤ (j : Int) := by omega
      have jn : (j : Int) ≤ (n : Int) := by omega
      have t1 : (j : Int).toNat = j := by omega
      obtain ⟨k, hk⟩ : ∃ k, k = Nat.min j (n - j) := ⟨_, rfl⟩
      have hkn : j + k ≤ n ∧ 1 ≤ k ∧ k ≤ j := by rw [hk]; simp only [Nat.min_def]; split <;> omega
      obtain ⟨k1, k2, k3⟩ := hkn
      obtain ⟨w5, hcp, hA5, hK5⟩ := copy_rp wr.drew w.heap.size n j k x ⟨w.heap.size, 0, none⟩ j n (n - j) (ArrI.ext hA.out (Ext.refl wr).drew) k1 hk (fun i hi => by
        rw [addr_add, Nat.zero_add]
        have h1 := hA.out.cell (p := i) (by simp [rp]; omega)
        have h2 : tAt (rp n x j) i = x := by
          unfold tAt rp
          rw [List.getD_eq_getElem?_getD, List.getElem?_append_left (by simp; omega), List.getElem?_replicate_of_lt (by omega)]; rfl
        rw [h2] at h1
        exact h1) 3
      have HA5 := Lib.hid hA5; have HE5 := Lib.hid (Below.keep (hE.out.drew) hK5 (by simp))
      clear hA5 hK5 hk
      go_wp2
      refine wp_region_order (fun _ : World => True) [0, 1, 2, 3, 4, 5, 6, 7, 8, 9] (by kernel_rfl) (by kernel_rfl) (by trivial) (fun hHeld => ?_)
      simp only [opsIn, List.filterMap_cons, List.filterMap_nil, List.getElem?_toArray, List.getElem?_cons_succ, List.getElem?_cons_zero]
      refine' text_chunk 7 (by kernel_rfl) hHeld ?ck1 ?cr1
      case ck1 =>
        intro W hSw
        have hSW := hSw
        try dsimp only at hSW
        clear hSw
        simp only [List.take_succ_cons, List.take_zero, List.drop_succ_cons, List.drop_zero]
        repeat (go_big_quiet_step (fail))
        exact wpQuiet_nil rfl
      simp only [List.take_succ_cons, List.take_zero, List.drop_succ_cons, List.drop_zero]
      refine text_call (by rfl) (by rfl) (fun K hK => ?_)
      refine oper_copy _ _ rfl rfl rfl hcp ?_
      refine hK.out _ _ (by trivial) (fun hHeld => ?_)
      clear hK K hcp
      try simp only [Act.put, List.setIfInBounds_toArray, List.set_cons_zero, List.set_cons_succ]
      refine' text_chunk 2 (by kernel_rfl) hHeld ?ck2 ?cr2
      case ck2 =>
        intro W hSw
        have hSW := hSw
        try dsimp only at hSW
        clear hSw
        simp only [List.take_succ_cons, List.take_zero, List.drop_succ_cons, List.drop_zero]
        repeat (go_big_quiet_step (fail))
        exact wpQuiet_nil rfl
      simp only [List.take_succ_cons, List.take_zero, List.drop_succ_cons, List.drop_zero]
      refine text_done ?_
      clear hHeld
      go_wp2
      go_roundw
      case rel => exact ⟨j + k, k1, .inr (by omega), by go_num, HA5.out, HE5.out⟩
      case measure => simp [intV]; omega
    · obtain rfl : j = n := by omega
      go_wp2
      go_ret
      exact ⟨_, Nat.le_refl _, by simp, by have := hA.out; simpa [rp] using this, hE.out⟩
end Go.Proofs.Ytclcippfodjfeaa
