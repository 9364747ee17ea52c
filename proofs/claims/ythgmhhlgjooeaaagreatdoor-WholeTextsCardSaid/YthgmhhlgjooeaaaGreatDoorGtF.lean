/- gtext's numbers of a row, walked. -/
import Derived.Test.YthgmhhlgjooeaaaGreatDoorGtE
import Derived.Test.YthgmhhlgjooeaaaGreatDoorErrI
namespace Go.Proofs.YthgmhhlgjooeaaaGreatDoor.Gt
open Go Go.Lib Go.RowKit Go.Extern

attribute [local go_sem] Oper.semAt_some

set_option maxRecDepth 100000 in
theorem isNil_calls (m : Int) (w : World) : Calls Tryz.prog 5 #[.nilIface, .iface 29 (.int .i64 m)] w fun e w' => e = .returned (.bool false) ∧ w' = w := by
  have hq : ∀ wx, (binOp .eql 26 .nilIface (.iface 29 (.int .i64 m))).run Tryz.prog wx = .ok (.bool false) wx := fun wx => by rfl
  go_enter Tryz.func5, Tryz.ntmps5
  go_wp2_with fail
  go_ret
  exact ⟨rfl, rfl⟩
/-- by which error a number of a row is refused. -/
def bnE (v : By) (below : Nat) (er : Int) : Int := if isNum v then (if val v < below then 0 else er) else 4
def bnV (v : By) (below : Nat) (er : Int) : Int := if bnE v below er = 0 then (val v : Int) else 0
set_option maxRecDepth 100000 in
set_option maxHeartbeats 2000000 in
theorem bnum_calls (below : Nat) (er : Int) (s : ByteArray) (w : World) (hs : s.size ≤ 281474976710656) (hb : below ≤ 4294967296) (her : er ≠ 0) :
    Calls Tryz.prog 61 #[.agg #[.int .u64 (below : Int), .int .i64 er], .string s] w fun e w' => e = .returned (.tuple #[.int .i64 (bnV (bs s) below er), errV (bnE (bs s) below er)]) ∧ Below w.heap.size w w' := by
  obtain ⟨z, hz⟩ : ∃ z, w.heap.size = z := ⟨_, rfl⟩
  obtain ⟨W0, hW0⟩ : ∃ W0, w.alloc (.cells #[.int .u64 (below : Int), .int .i64 er] 120) = W0 := ⟨_, rfl⟩
  have HW0 : Hid (w.alloc (.cells #[.int .u64 (below : Int), .int .i64 er] 120) = W0) := hW0
  have h0 : W0.heap[z]? = some (.cells #[.int .u64 (below : Int), .int .i64 er] 120) := by rw [← hW0, ← hz]; exact heap_newG _ _
  have HB : Hid (Below w.heap.size w W0) := by rw [← hW0]; exact (Below.refl _ _).alloc (Nat.le_refl _) _
  have c0 : W0.cell? ⟨z, 0, none⟩ = some (.int .u64 (below : Int)) := by simp [World.cell?, h0]
  have c1 : W0.cell? ⟨z, 1, none⟩ = some (.int .i64 er) := by simp [World.cell?, h0]
  have zl : z < W0.heap.size := (Array.getElem?_eq_some_iff.1 h0).1
  have HN : Hid (Calls Tryz.prog 80 #[.string s, .int .u64 18446744073709551615] W0 fun e w' => e = .returned (.tuple #[.int .u64 (if numE (bs s) 18446744073709551615 = 0 then (val (bs s) : Int) else 0), errV (numE (bs s) 18446744073709551615)]) ∧ w' = W0) := number_calls s 18446744073709551615 W0 hs (by decide)
  obtain ⟨V, hV⟩ : ∃ V, bnV (bs s) below er = V := ⟨_, rfl⟩
  obtain ⟨E, hE⟩ : ∃ E, bnE (bs s) below er = E := ⟨_, rfl⟩
  have HVE : Hid (bnV (bs s) below er = V ∧ bnE (bs s) below er = E) := ⟨hV, hE⟩
  rw [hV, hE]
  clear hV hE hW0 h0
  by_cases hnum : isNum (bs s) = true
  · by_cases hbig : 18446744073709551615 < val (bs s)
    · have e1 : numE (bs s) 18446744073709551615 = 1 := by unfold numE; rw [if_pos hnum, if_pos hbig]
      rw [e1] at HN
      have HR : Hid (V = 0 ∧ E = er) := by
        have q : bnE (bs s) below er = er := by unfold bnE; rw [if_pos hnum, if_neg (by omega)]
        obtain ⟨r1, r2⟩ := HVE.out
        unfold bnV at r1
        rw [q] at r1 r2
        rw [if_neg her] at r1
        exact ⟨r1.symm, r2.symm⟩
      have HI : Hid (∀ wx, Calls Tryz.prog 5 #[.iface 29 (.int .i64 1), .iface 29 (.int .i64 4)] wx fun e w' => e = .returned (.bool false) ∧ w' = wx) := fun wx => errorsIs_num [] 1 4 _ wx rfl
      clear e1 hnum hbig
      unfold errV at HN
      rw [if_neg (by decide), if_neg (by decide)] at HN
      have hev : errV E = .iface 29 (.int .i64 er) := by rw [HR.out.2]; unfold errV; rw [if_neg her]
      rw [hev, HR.out.1]
      clear hev
      go_enter Tryz.func61, Tryz.ntmps61
      go_upto_region 1 with fail
      rw [HW0.out]
      go_wp2_with fail
      refine HN.out.mono ?_
      rintro e w' ⟨rfl, rfl⟩
      go_wp2_with fail
      refine (HI.out _).mono ?_
      rintro e w'' ⟨rfl, rfl⟩
      go_upto_region 5 with fail
      go_quiet (fail)
      go_wp2
      go_ret2
      exact ⟨rfl, HB.out.trans ⟨rfl, rfl, rfl, Nat.le_refl _, fun _ _ => rfl⟩⟩
    · have e1 : numE (bs s) 18446744073709551615 = 0 := by unfold numE; rw [if_pos hnum, if_neg hbig]
      rw [e1] at HN
      unfold errV at HN
      rw [if_pos rfl, if_pos rfl] at HN
      obtain ⟨v, hv⟩ : ∃ v, val (bs s) = v := ⟨_, rfl⟩
      rw [hv] at HN hbig
      by_cases hlt : v < below
      · have HR : Hid (V = (v : Int) ∧ E = 0) := by
          have q : bnE (bs s) below er = 0 := by unfold bnE; rw [if_pos hnum, hv, if_pos hlt]
          obtain ⟨r1, r2⟩ := HVE.out
          unfold bnV at r1
          rw [q] at r1 r2
          rw [if_pos rfl, hv] at r1
          exact ⟨r1.symm, r2.symm⟩
        have d1 : decide ((v : Int) ≥ (below : Int)) = false := by simp; omega
        have d2 : decide (below ≤ v) = false := by simp; omega
        have w1 : IntKind.i64.wrap (v : Int) = (v : Int) := by rw [IntKind.wrap_i64] <;> omega
        have hev : errV E = .nilIface := by rw [HR.out.2]; rfl
        rw [hev, HR.out.1]
        clear hev hnum hbig hv e1
        go_enter Tryz.func61, Tryz.ntmps61
        go_upto_region 1 with fail
        rw [HW0.out]
        go_wp2_with fail
        refine HN.out.mono ?_
        rintro e w' ⟨rfl, rfl⟩
        go_wp2_with fail
        refine (isNil_calls 4 _).mono ?_
        rintro e w'' ⟨rfl, rfl⟩
        go_wp2
        go_ret2
        exact ⟨rfl, HB.out⟩
      · have HR : Hid (V = 0 ∧ E = er) := by
          have q : bnE (bs s) below er = er := by unfold bnE; rw [if_pos hnum, hv, if_neg hlt]
          obtain ⟨r1, r2⟩ := HVE.out
          unfold bnV at r1
          rw [q] at r1 r2
          rw [if_neg her] at r1
          exact ⟨r1.symm, r2.symm⟩
        have d1 : decide ((v : Int) ≥ (below : Int)) = true := by simp; omega
        have d2 : decide (below ≤ v) = true := by simp; omega
        have hev : errV E = .iface 29 (.int .i64 er) := by rw [HR.out.2]; unfold errV; rw [if_neg her]
        rw [hev, HR.out.1]
        clear hev hnum hbig hv e1
        go_enter Tryz.func61, Tryz.ntmps61
        go_upto_region 1 with fail
        rw [HW0.out]
        go_wp2_with fail
        refine HN.out.mono ?_
        rintro e w' ⟨rfl, rfl⟩
        go_wp2_with fail
        refine (isNil_calls 4 _).mono ?_
        rintro e w'' ⟨rfl, rfl⟩
        go_upto_region 5 with fail
        go_quiet (fail)
        go_wp2
        go_ret2
        exact ⟨rfl, HB.out.trans ⟨rfl, rfl, rfl, Nat.le_refl _, fun _ _ => rfl⟩⟩
  · have hf : isNum (bs s) = false := by simpa using hnum
    have e1 : numE (bs s) 18446744073709551615 = 4 := by unfold numE; rw [if_neg (by rw [hf]; decide)]
    rw [e1] at HN
    have HR : Hid (V = 0 ∧ E = 4) := by
      have q : bnE (bs s) below er = 4 := by unfold bnE; rw [if_neg (by rw [hf]; decide)]
      obtain ⟨r1, r2⟩ := HVE.out
      unfold bnV at r1
      rw [q] at r1 r2
      exact ⟨r1.symm, r2.symm⟩
    have HI : Hid (∀ wx, Calls Tryz.prog 5 #[.iface 29 (.int .i64 4), .iface 29 (.int .i64 4)] wx fun e w' => e = .returned (.bool true) ∧ w' = wx) := fun wx => errorsIs_num [] 4 4 _ wx rfl
    clear e1 hnum hf
    unfold errV at HN
    rw [if_neg (by decide), if_neg (by decide)] at HN
    have hev : errV E = .iface 29 (.int .i64 4) := by rw [HR.out.2]; rfl
    rw [hev, HR.out.1]
    clear hev
    go_enter Tryz.func61, Tryz.ntmps61
    go_upto_region 1 with fail
    rw [HW0.out]
    go_wp2_with fail
    refine HN.out.mono ?_
    rintro e w' ⟨rfl, rfl⟩
    go_wp2_with fail
    refine (HI.out _).mono ?_
    rintro e w'' ⟨rfl, rfl⟩
    go_wp2
    go_ret2
    exact ⟨rfl, HB.out⟩
end Go.Proofs.YthgmhhlgjooeaaaGreatDoor.Gt
