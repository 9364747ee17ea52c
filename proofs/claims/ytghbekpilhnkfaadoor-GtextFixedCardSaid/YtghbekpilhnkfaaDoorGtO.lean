/- the reference's digits and DocNumber, walked. -/
import Derived.Test.YtghbekpilhnkfaaDoorGtK
import Derived.Test.YtghbekpilhnkfaaDoorDocCheck
namespace Go.Proofs.YtghbekpilhnkfaaDoor.Gt
open Go Go.Lib Go.RowKit Go.Extern Hi

attribute [local go_sem] Oper.semAt_some

set_option maxRecDepth 100000 in
set_option maxHeartbeats 2000000 in
theorem digits_calls (s : ByteArray) (w : World) (hs : s.size ≤ 281474976710656) : Calls Tryd.prog 72 #[.string s] w fun e w' => e = .returned (.bool (isNum (bs s))) ∧ w' = w := by
  have HSZ : Hid ((bs s).length = s.size) := bs_len s
  go_enter Tryd.func72, Tryd.ntmps72
  go_wp2_with fail
  go_loopw [3] (fun iv wr => ∃ k : Nat, k ≤ s.size ∧ iv = .int .i64 k ∧ Hid (((bs s).take k).all dig = true) ∧ wr = w) (fun iv _ => s.size - (intOf iv).toNat)
  case atStart => exact ⟨0, Nat.zero_le _, rfl, rfl, rfl⟩
  case round =>
    obtain ⟨k, hk, rfl, HA, rfl⟩ := hrel
    rcases Nat.lt_or_eq_of_le hk with h1 | h1
    · have hb := bs_at s k h1
      obtain ⟨y, hy⟩ : ∃ y, s[k]'h1 = y := ⟨_, rfl⟩
      rw [hy] at hb
      have HB : Hid ((bs s)[k]? = some y) := hb
      clear hb
      have i1 : (0 : Int) ≤ (k : Int) := by omega
      have i2 : (k : Int) < (s.size : Int) := by omega
      have i3 : decide ((k : Int) < (s.size : Int)) = true := by simp; omega
      have key : (bs s).all dig = false → isNum (bs s) = false := fun e => by unfold isNum; rw [e, Bool.and_false]
      have HK : Hid ((bs s).all dig = false → isNum (bs s) = false) := key
      clear key
      by_cases p1 : y.toNat < 48
      · have d1 : decide ((y.toNat : Int) < 48) = true := by simp; omega
        have HF : Hid (isNum (bs s) = false) := HK.out (all_false HB.out (by unfold dig; simp; omega))
        go_wp2
        go_ret
        exact ⟨by rw [HF.out]; rfl, rfl⟩
      · have d1 : decide ((y.toNat : Int) < 48) = false := by simp; omega
        by_cases p2 : 57 < y.toNat
        · have d2 : decide ((y.toNat : Int) > 57) = true := by simp; omega
          have HF : Hid (isNum (bs s) = false) := HK.out (all_false HB.out (by unfold dig; simp; omega))
          go_wp2
          go_ret
          exact ⟨by rw [HF.out]; rfl, rfl⟩
        · have d2 : decide ((y.toNat : Int) > 57) = false := by simp; omega
          have HT : Hid (((bs s).take (k + 1)).all dig = true) := by
            show _ = _
            rw [take_all HB.out, HA.out]
            unfold dig
            simp
            omega
          go_wp2_with fail
          go_roundw
          case rel => exact ⟨k + 1, by omega, by rw [show (k : Int) + 1 = ((k + 1 : Nat) : Int) by omega], HT, trivial⟩
          case measure => simp only [intOf]; omega
    · have i3 : decide ((k : Int) < (s.size : Int)) = false := by simp; omega
      have HD : Hid ((bs s).all dig = true) := by
        have g := HA.out
        rw [h1, ← bs_len, List.take_length] at g
        exact g
      clear HA
      rcases (show s.size = 0 ∨ s.size = 1 ∨ 1 < s.size by omega) with q | q | q
      · have HF : Hid (isNum (bs s) = false) := by
          have e0 : bs s = [] := List.eq_nil_of_length_eq_zero (by rw [HSZ.out]; exact q)
          show _ = _
          unfold isNum
          rw [e0]
          rfl
        have d1 : ((s.size : Int) == 1) = false := beq_eq_false_iff_ne.2 (by omega)
        have d2 : decide ((s.size : Int) > 1) = false := by simp; omega
        clear q
        go_wp2
        go_ret
        exact ⟨by rw [HF.out]; rfl, rfl⟩
      · have HF : Hid (isNum (bs s) = true) := by
          show _ = _
          have e0 : (bs s == []) = false := beq_eq_false_iff_ne.2 (fun e => by have := HSZ.out; rw [e] at this; simp at this; omega)
          unfold isNum
          rw [HD.out, HSZ.out, q, e0]
          simp
        have d1 : ((s.size : Int) == 1) = true := by rw [q]; rfl
        clear q
        go_wp2
        go_ret
        exact ⟨by rw [HF.out]; rfl, rfl⟩
      · have h0 : 0 < s.size := by omega
        obtain ⟨x, hx⟩ : ∃ x, s[0]'h0 = x := ⟨_, rfl⟩
        have hx0 := bs_at s 0 h0
        rw [hx] at hx0
        have d1 : ((s.size : Int) == 1) = false := beq_eq_false_iff_ne.2 (by omega)
        have d2 : decide ((s.size : Int) > 1) = true := by simp; omega
        have i1 : (0 : Int) < (s.size : Int) := by omega
        have e0 : (bs s == []) = false := beq_eq_false_iff_ne.2 (fun e => by have := HSZ.out; rw [e] at this; simp at this; omega)
        by_cases p : x = 48
        · have HF : Hid (isNum (bs s) = false) := by
            show _ = _
            unfold isNum
            rw [HD.out, HSZ.out, hx0, p, decide_eq_true q]
            simp
          subst p
          clear q hx0 e0
          go_wp2
          go_ret
          exact ⟨by rw [HF.out]; rfl, rfl⟩
        · have HF : Hid (isNum (bs s) = true) := by
            show _ = _
            unfold isNum
            rw [HD.out, hx0, e0]
            simp
            exact Or.inl p
          have d3 : ((x.toNat : Int) != 48) = true := bne_iff_ne.2 (fun q => p (UInt8.toNat_inj.1 (by show x.toNat = 48; omega)))
          clear q hx0 e0 p
          go_wp2
          go_ret
          exact ⟨by rw [HF.out]; rfl, rfl⟩
/-- an error of the reference. -/
def errR (c : Int) : Value := .agg #[.int .i64 c, .slice none 0 0]
theorem docn_res {W : World} {z : Nat} {v : Int} {x0 x1 : Value} {tmps : Array Value} (h1 : W.heap[z]? = some (.cells #[x0, x1] 32)) (t2 : tmps[5]?.getD undef = .pointer (some ⟨z, 0, none⟩)) (t3 : tmps[4]?.getD undef = .int .u64 v) :
    (results Tryd.f64 tmps).run Tryd.prog W = .ok (.tuple #[.int .u64 v, .agg #[x0, x1]]) W := by
  have c0 : W.cell? ⟨z, 0, none⟩ = some x0 := by simp [World.cell?, h1]
  have c1 : W.cell? ⟨z, 1, none⟩ = some x1 := by simp [World.cell?, h1]
  simp [results, Tryd.results64, go_sem, t2, t3, c0, c1]

set_option maxRecDepth 100000 in
set_option maxHeartbeats 2000000 in
theorem docNumber_calls (s : ByteArray) (most : Nat) (w : World) (hs : s.size ≤ 281474976710656) (hm : most < 18446744073709551616) :
    Calls Tryd.prog 64 #[.string s, .int .u64 (most : Int)] w fun e w' => e = .returned (.tuple #[.int .u64 (if numE (bs s) most = 0 then (val (bs s) : Int) else 0), errR (numE (bs s) most)]) ∧ Below w.heap.size w w' := by
  obtain ⟨z, hz⟩ : ∃ z, w.heap.size = z := ⟨_, rfl⟩
  obtain ⟨W1, hW1⟩ : ∃ W1, w.alloc (.cells #[.int .i64 0, .slice none 0 0] 32) = W1 := ⟨_, rfl⟩
  have HW1 : Hid (w.alloc (.cells #[.int .i64 0, .slice none 0 0] 32) = W1) := hW1
  have n0 : W1.heap[z]? = some (.cells #[.int .i64 0, .slice none 0 0] 32) := by rw [← hW1, ← hz]; exact heap_newG _ _
  have hb1 : Below w.heap.size w W1 := by rw [← hW1]; exact (Below.refl _ _).alloc (Nat.le_refl _) _
  have H1 : Hid (Below w.heap.size w W1 ∧ W1.heap[z]? = some (.cells #[.int .i64 0, .slice none 0 0] 32) ∧ w.heap.size ≤ z ∧ z < W1.heap.size) := ⟨hb1, n0, by omega, (Array.getElem?_eq_some_iff.1 n0).1⟩
  have c0 : W1.cell? ⟨z, 0, none⟩ = some (.int .i64 0) := by simp [World.cell?, n0]
  have c1 : W1.cell? ⟨z, 1, none⟩ = some (.slice none 0 0) := by simp [World.cell?, n0]
  have f0 : W1.frozen? ⟨z, 0, none⟩ = false := by simp [World.frozen?, n0]
  have f1 : W1.frozen? ⟨z, 1, none⟩ = false := by simp [World.frozen?, n0]
  have HN : Hid (Calls Tryd.prog 72 #[.string s] W1 fun e w' => e = .returned (.bool (isNum (bs s))) ∧ w' = W1) := digits_calls s W1 hs
  have fin : ∀ {Y : World} (c : Int), Below W1.heap.size W1 Y → Below w.heap.size w ((Y.setCell ⟨z, 0, none⟩ (.int .i64 c)).setCell ⟨z, 1, none⟩ (.slice none 0 0)) ∧ ((Y.setCell ⟨z, 0, none⟩ (.int .i64 c)).setCell ⟨z, 1, none⟩ (.slice none 0 0)).heap[z]? = some (.cells #[.int .i64 c, .slice none 0 0] 32) := fun {Y} c hY =>
    ⟨(set_far (hb1.trans (hY.mono hb1.size)) (by omega) _ _).1, set_twoG ((hY.block _ H1.out.2.2.2).trans n0) _ _⟩
  have HFIN : Hid (∀ {Y : World} (c : Int), Below W1.heap.size W1 Y → Below w.heap.size w ((Y.setCell ⟨z, 0, none⟩ (.int .i64 c)).setCell ⟨z, 1, none⟩ (.slice none 0 0)) ∧ ((Y.setCell ⟨z, 0, none⟩ (.int .i64 c)).setCell ⟨z, 1, none⟩ (.slice none 0 0)).heap[z]? = some (.cells #[.int .i64 c, .slice none 0 0] 32)) := fin
  have HCL : Hid (∀ Y, Below W1.heap.size W1 Y → Y.cell? ⟨z, 0, none⟩ = some (.int .i64 0) ∧ Y.cell? ⟨z, 1, none⟩ = some (.slice none 0 0) ∧ Y.frozen? ⟨z, 0, none⟩ = false ∧ Y.frozen? ⟨z, 1, none⟩ = false) := fun Y hY => by
    have g := (hY.block _ H1.out.2.2.2).trans H1.out.2.1
    exact ⟨by simp [World.cell?, g], by simp [World.cell?, g], by simp [World.frozen?, g], by simp [World.frozen?, g]⟩
  obtain ⟨R, hR⟩ : ∃ R : Int, (if numE (bs s) most = 0 then (val (bs s) : Int) else 0) = R := ⟨_, rfl⟩
  obtain ⟨E, hE0⟩ : ∃ E : Int, numE (bs s) most = E := ⟨_, rfl⟩
  have HRE : Hid ((if numE (bs s) most = 0 then (val (bs s) : Int) else 0) = R ∧ numE (bs s) most = E) := ⟨hR, hE0⟩
  rw [hR, hE0]
  clear hR hE0 hW1 n0 hb1 fin
  by_cases hnum : isNum (bs s) = true
  · rw [hnum] at HN
    have HD : Hid ((bs s).all dig = true) := by
      show _ = _
      unfold isNum at hnum
      simp only [Bool.and_eq_true] at hnum
      exact hnum.2
    have HE : Hid (numE (bs s) most = if most < val (bs s) then 1 else 0) := by show _ = _; unfold numE; rw [if_pos hnum]
    clear hnum
    go_enter Tryd.func64, Tryd.ntmps64
    go_wp2_with fail
    rw [HW1.out]
    refine HN.out.mono ?_
    rintro e w' ⟨rfl, rfl⟩
    go_wp2_with fail
    go_loopw [6, 7] (fun nv iv wr => ∃ k : Nat, k ≤ s.size ∧ iv = .int .i64 k ∧ nv = .int .u64 (val ((bs s).take k) : Int) ∧ Hid (val ((bs s).take k) ≤ most) ∧ wr = w') (fun _ iv _ => s.size - (intOf iv).toNat)
    case atStart => exact ⟨0, Nat.zero_le _, rfl, rfl, Nat.zero_le _, rfl⟩
    case round =>
      obtain ⟨k, hk, rfl, rfl, HA, rfl⟩ := hrel
      rcases Nat.lt_or_eq_of_le hk with h1 | h1
      · have hb := bs_at s k h1
        obtain ⟨y, hy⟩ : ∃ y, s[k]'h1 = y := ⟨_, rfl⟩
        rw [hy] at hb
        have hdg : dig y = true := by have := List.all_eq_true.1 HD.out y (List.mem_of_getElem? hb); exact this
        unfold dig at hdg
        simp only [Bool.and_eq_true, decide_eq_true_eq] at hdg
        obtain ⟨d, hd⟩ : ∃ d, y.toNat = 48 + d := ⟨y.toNat - 48, by omega⟩
        have HV : Hid (val ((bs s).take (k + 1)) = val ((bs s).take k) * 10 + d ∧ val ((bs s).take (k + 1)) ≤ val (bs s)) := ⟨by rw [valF_step hb, hd]; omega, val_take _ _⟩
        obtain ⟨n, hn⟩ : ∃ n, val ((bs s).take k) = n := ⟨_, rfl⟩
        rw [hn] at HV HA
        rw [hn]
        have hnm : n ≤ most := HA.out
        have hd9 : d ≤ 9 := by omega
        have i1 : (0 : Int) ≤ (k : Int) := by omega
        have i2 : (k : Int) < (s.size : Int) := by omega
        have i3 : decide ((k : Int) < (s.size : Int)) = true := by simp; omega
        have w1 : IntKind.u8.wrap ((y.toNat : Int) - 48) = (d : Int) := by rw [IntKind.wrap_u8]; omega
        have w2 : IntKind.u64.wrap (d : Int) = (d : Int) := by rw [IntKind.wrap_u64]; omega
        clear hb hn hd hdg
        have bad : most < n * 10 + d → Hid (R = 0 ∧ E = 1) := fun q => by
          have e1 : numE (bs s) most = 1 := by rw [HE.out, if_pos (by have := HV.out; omega)]
          obtain ⟨r1, r2⟩ := HRE.out
          rw [e1] at r1 r2
          exact ⟨by rw [← r1]; rfl, r2.symm⟩
        by_cases q1 : most / 10 < n
        · have c9 : decide ((n : Int) > (most : Int) / 10) = true := by simp; omega
          have HX := bad (by omega)
          clear bad
          go_wp2_with fail
          refine (E_calls 1 wr).mono ?_
          rintro e y5 ⟨rfl, hy5⟩
          obtain ⟨c0, c1, f0, f1⟩ := HCL.out y5 hy5
          go_wp2
          obtain ⟨g1, g2⟩ := HFIN.out 1 hy5
          refine bodyPost_ret (docn_res g2 rfl rfl) rfl ?_
          exact ⟨by rw [HX.out.1, HX.out.2]; rfl, g1⟩
        · have c9 : decide ((n : Int) > (most : Int) / 10) = false := by simp; omega
          have m1 : IntKind.u64.wrap (10 * (n : Int)) = 10 * (n : Int) := by rw [IntKind.wrap_u64]; omega
          have m3 : IntKind.u64.wrap ((most : Int) - 10 * (n : Int)) = (most : Int) - 10 * (n : Int) := by rw [IntKind.wrap_u64]; omega
          by_cases q2 : most < n * 10 + d
          · have c8 : decide ((d : Int) > (most : Int) - 10 * (n : Int)) = true := by simp; omega
            have HX := bad q2
            clear bad
            go_wp2_with fail
            refine (E_calls 1 wr).mono ?_
            rintro e y5 ⟨rfl, hy5⟩
            obtain ⟨c0, c1, f0, f1⟩ := HCL.out y5 hy5
            go_wp2
            obtain ⟨g1, g2⟩ := HFIN.out 1 hy5
            refine bodyPost_ret (docn_res g2 rfl rfl) rfl ?_
            exact ⟨by rw [HX.out.1, HX.out.2]; rfl, g1⟩
          · have c8 : decide ((d : Int) > (most : Int) - 10 * (n : Int)) = false := by simp; omega
            have m2 : IntKind.u64.wrap (10 * (n : Int) + (d : Int)) = ((n * 10 + d : Nat) : Int) := by rw [IntKind.wrap_u64]; omega
            clear bad
            go_wp2_with fail
            go_roundw
            case rel => exact ⟨k + 1, by omega, by rw [show (k : Int) + 1 = ((k + 1 : Nat) : Int) by omega], by rw [HV.out.1]; exact congrArg (Value.int IntKind.u64) (by omega), by show _ ≤ _; rw [HV.out.1]; omega, trivial⟩
            case measure => simp only [intOf]; omega
      · have i3 : decide ((k : Int) < (s.size : Int)) = false := by simp; omega
        have HX : Hid (R = (val ((bs s).take k) : Int) ∧ E = 0) := by
          have g : val (bs s) ≤ most := by
            have := HA.out
            rw [h1, ← bs_len, List.take_length] at this
            exact this
          have e1 : numE (bs s) most = 0 := by rw [HE.out, if_neg (by omega)]
          obtain ⟨r1, r2⟩ := HRE.out
          rw [e1] at r1 r2
          exact ⟨by rw [← r1, h1, ← bs_len, List.take_length]; rfl, r2.symm⟩
        go_wp2
        obtain ⟨g1, g2⟩ := HFIN.out 0 (Below.refl _ _)
        refine bodyPost_ret (docn_res g2 rfl rfl) rfl ?_
        exact ⟨by rw [HX.out.1, HX.out.2]; rfl, g1⟩
  · have hf : isNum (bs s) = false := by simpa using hnum
    rw [hf] at HN
    have HE : Hid (numE (bs s) most = 4) := by show _ = _; unfold numE; rw [if_neg (by rw [hf]; decide)]
    clear hf hnum
    go_enter Tryd.func64, Tryd.ntmps64
    go_wp2_with fail
    rw [HW1.out]
    refine HN.out.mono ?_
    rintro e w' ⟨rfl, rfl⟩
    have HX : Hid (R = 0 ∧ E = 4) := by
      obtain ⟨r1, r2⟩ := HRE.out
      rw [HE.out] at r1 r2
      exact ⟨by rw [← r1]; rfl, r2.symm⟩
    clear c0 c1 f0 f1
    go_wp2_with fail
    refine (E_calls 4 w').mono ?_
    rintro e y5 ⟨rfl, hy5⟩
    obtain ⟨c0, c1, f0, f1⟩ := HCL.out y5 hy5
    go_wp2
    obtain ⟨g1, g2⟩ := HFIN.out 4 hy5
    refine bodyPost_ret (docn_res g2 rfl rfl) rfl ?_
    exact ⟨by rw [HX.out.1, HX.out.2]; rfl, g1⟩
end Go.Proofs.YtghbekpilhnkfaaDoor.Gt
