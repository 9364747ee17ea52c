/- rows of links in memory; the iterator that hier.ranked answers. -/
import Derived.Test.YtodilocmfdeehaaGreatDoorHrC
import Derived.Test.YtodilocmfdeehaaGreatDoorHrL
import Derived.Sort.QuietIn
namespace Go.Proofs.YtodilocmfdeehaaGreatDoor.Hi
open Go.RowKit Go.Extern Go.Shelf

attribute [local go_sem] Oper.semAt_some

/-- links in memory. -/
def HasLs (w : World) (lv : Value) (L : List Lk) : Prop :=
  ∃ ao cap, lv = .slice ao L.length cap ∧ L.length ≤ cap ∧ ∀ (j : Nat) (l : Lk), L[j]? = some l → l.ok ∧ ∃ b off, ao = some ⟨b, off, none⟩ ∧ b < w.heap.size ∧ w.cell? ⟨b, off + j * 4, none⟩ = some (.int .u32 (l.hd : Int)) ∧ w.cell? ⟨b, off + j * 4 + 1, none⟩ = some (.int .u64 (l.wt : Int)) ∧ w.cell? ⟨b, off + j * 4 + 2, none⟩ = some (.int .u32 (l.lf : Int)) ∧ w.cell? ⟨b, off + j * 4 + 3, none⟩ = some (.int .u32 (l.rt : Int))
theorem HasLs.keep {w w' : World} {lv : Value} {L : List Lk} (h : HasLs w lv L) (hb : Below w.heap.size w w') : HasLs w' lv L := by
  obtain ⟨ao, cap, e, hcap, hc⟩ := h
  refine ⟨ao, cap, e, hcap, fun j a hj => ?_⟩
  obtain ⟨g, b, off, ea, hl, h0, h1, h2, h3⟩ := hc j a hj
  exact ⟨g, b, off, ea, Nat.lt_of_lt_of_le hl hb.size, (hb.cell (p := ⟨b, _, none⟩) hl).trans h0, (hb.cell (p := ⟨b, _, none⟩) hl).trans h1, (hb.cell (p := ⟨b, _, none⟩) hl).trans h2, (hb.cell (p := ⟨b, _, none⟩) hl).trans h3⟩
theorem HasLs.cap {w : World} {ao : Option Addr} {n cap : Nat} {L : List Lk} (h : HasLs w (.slice ao n cap) L) : n ≤ cap := by
  obtain ⟨_, _, e, h, _⟩ := h
  injection e with _ e1 e2
  omega
theorem HasLs.at {w : World} {ao : Option Addr} {n cap : Nat} {L : List Lk} (h : HasLs w (.slice ao n cap) L) {j : Nat} {l : Lk} (hj : L[j]? = some l) :
    l.ok ∧ ∃ b off, ao = some ⟨b, off, none⟩ ∧ b < w.heap.size ∧ w.cell? ⟨b, off + j * 4, none⟩ = some (.int .u32 (l.hd : Int)) ∧ w.cell? ⟨b, off + j * 4 + 1, none⟩ = some (.int .u64 (l.wt : Int)) ∧ w.cell? ⟨b, off + j * 4 + 2, none⟩ = some (.int .u32 (l.lf : Int)) ∧ w.cell? ⟨b, off + j * 4 + 3, none⟩ = some (.int .u32 (l.rt : Int)) := by
  obtain ⟨ao', cap', e, _, hc⟩ := h
  injection e with e1 e2 e3
  subst e1
  exact hc j l hj
theorem Tryz.elemLk : Tryz.prog.underlying 23 = some (.slice (Tryz.prog.elem 23)) := by kernel_rfl
theorem Tryz.sizeLk (w : World) : (sizeOf (Tryz.prog.elem 23)).run Tryz.prog w = .ok 4 w := by kernel_rfl
theorem cut_lks (lo : Option Addr) (n cap i j : Nat) (hij : i ≤ j) (hj : j ≤ cap) : ∃ so, (i < j → ∀ b off, lo = some ⟨b, off, none⟩ → so = some ⟨b, off + i * 4, none⟩) ∧ ∀ w, (Instr.slice 23 (.slice lo n cap) (some (.int .u32 (i : Int))) (some (.int .u32 (j : Int))) none).run Tryz.prog w = .ok (.slice so (j - i) (cap - i)) w := by
  have e1 : (i : Int).toNat = i := by omega
  have e2 : (j : Int).toNat = j := by omega
  refine ⟨if cap = i then lo else lo.map (·.add (i * 4)), fun h b off e => ?_, fun w => ?_⟩
  · rw [if_neg (by omega), e]
    simp [Addr.add]
  · rw [run_slice_lh (ht := Tryz.elemLk) (h0 := by omega) (h1 := by omega) (h2 := by omega), Tryz.sizeLk]
    simp only [Result.andThen_ok, sliced, e1, e2]

theorem Turn.drewN {Tn : Obj → Prop} {B : Nat} {A C : World} (h : Turn Tn B A C) (k : Nat) : Turn Tn B A (C.drewN k) := h.trans ⟨⟨rfl, rfl, rfl, Nat.le_refl _, fun _ _ => rfl⟩, fun _ _ hk _ => hk⟩
/-- what the iterator of ranked reads. -/
structure MemR (B1 B2 : Nat) (fo lo : Option Addr) (fc lc : Nat) (F : List Nat) (L : List Lk) (W : World) : Prop where
  b1 : Boxed W B1 22 (.slice fo F.length fc)
  b2 : Boxed W B2 23 (.slice lo L.length lc)
  fs : HasWs W (.slice fo F.length fc) F
  ls : HasLs W (.slice lo L.length lc) L
/-- what is no cells. -/
def TnC (o : Obj) : Prop := o.isCells = false
def encR (x : Nat × Lk) : Array Value := #[.int .u32 (x.1 : Int), lvl x.2]

set_option maxRecDepth 100000 in
set_option maxHeartbeats 4000000 in
theorem ranked1_seq (n B1 B2 : Nat) (fo lo : Option Addr) (fc lc : Nat) (F : List Nat) (L : List Lk) (hF : FOk F L.length) (hn : F.length ≤ 65537) (hL : L.length ≤ 1048576) (B : Nat) :
    SeqT Fence.wide n Tryz.prog 121 #[.pointer (some ⟨B1, 0, none⟩), .pointer (some ⟨B2, 0, none⟩)] encR TnC (MemR B1 B2 fo lo fc lc F L) (rkL F L) B := by
  intro l J Jx W _ hJ hJx hM hY h0
  refine callsIn_of_wp Tryz.func121 rfl trivial ?_ rfl
  have HJ : Hid (AbT TnC W.heap.size J) := hJ
  have HM : Hid (∀ pre W1, J pre W1 → MemR B1 B2 fo lo fc lc F L W1) := hM
  have HY : Hid (∀ pre x W1, J pre W1 → pre ++ [x] <+: rkL F L → YieldAt Fence.wide (n - 1) Tryz.prog l (encR x) W1 fun e W' => KeepsT TnC W.heap.size W1 W' ∧ ((e = .returned (.bool true) ∧ J (pre ++ [x]) W') ∨ (e = .returned (.bool false) ∧ Jx (pre ++ [x]) W'))) := hY
  have H0 : Hid (J [] W) := h0
  have c1 := (HM.out _ _ h0).b1.cell
  have c2 := (HM.out _ _ h0).b2.cell
  have HF : Hid (FOk F L.length) := hF
  have hF1 := hF.len
  clear hJ hJx hM hY h0 hF
  simp only [List.size_toArray, List.length_cons, List.length_nil, Tryz.ntmps121, Nat.reduceAdd, Nat.reduceSub, Array.replicate_succ, Array.replicate_zero, List.push_toArray, List.append_toArray, List.nil_append, List.cons_append]
  obtain ⟨N, hN⟩ : ∃ N, F.length = N + 1 := ⟨F.length - 1, by omega⟩
  have HN : Hid (F.length = N + 1) := hN
  have H0' : Hid (J (rkUpto F L 0) W) := H0
  have hNb : N ≤ 65536 := by omega
  rw [hN] at c1
  clear hN hn hF1 H0
  have w1 : IntKind.i64.wrap (((N + 1 : Nat) : Int) - 1) = (N : Int) := by rw [IntKind.wrap_i64]; omega
  gi_wp2
  gi_loopw [10] (fun i wr => ∃ r : Nat, r ≤ N ∧ i = .int .i64 r ∧ Hid (W.heap.size ≤ wr.heap.size) ∧ Hid (J (rkUpto F L r) wr)) (fun i _ => N - (intOf i).toNat)
  case atStart => exact ⟨0, by omega, rfl, Nat.le_refl _, H0'⟩
  case round =>
    obtain ⟨r, hr, rfl, HZ, HJr⟩ := hrel
    generalize hW : wr = W1 at *
    clear hW c1 c2
    rcases Nat.lt_or_eq_of_le hr with h1 | h1
    · have HM1 : Hid (MemR B1 B2 fo lo fc lc F L W1) := HM.out _ _ HJr.out
      have c1 := HM1.out.b1.cell
      have c2 := HM1.out.b2.cell
      rw [HN.out] at c1
      have hfs := HM1.out.fs
      rw [HN.out] at hfs
      obtain ⟨fb, foff, e1, _, hc⟩ := hfs.cells (by omega)
      subst e1
      have ca := hc r (by omega)
      have cb := hc (r + 1) (by omega)
      have sx := hfs.small r
      have sy := hfs.small (r + 1)
      have hcapL := HM1.out.ls.cap
      have hxy := HF.out.le r (by rw [HN.out]; omega)
      have hyL := HF.out.atmost (a := r + 1) (by rw [HN.out]; omega)
      clear hc hfs
      obtain ⟨x, hx⟩ : ∃ x, nth F r = x := ⟨_, rfl⟩
      obtain ⟨y, hy⟩ : ∃ y, nth F (r + 1) = y := ⟨_, rfl⟩
      have HX : Hid (nth F r = x ∧ nth F (r + 1) = y) := ⟨hx, hy⟩
      rw [hx] at ca sx hxy
      rw [hy] at cb sy hxy hyL
      clear hx hy
      obtain ⟨so, hso, hcut⟩ := cut_lks lo L.length lc x y hxy (by omega)
      have HSO : Hid (x < y → ∀ b off, lo = some ⟨b, off, none⟩ → so = some ⟨b, off + x * 4, none⟩) := hso
      obtain ⟨m, hm⟩ : ∃ m, y - x = m := ⟨_, rfl⟩
      rw [hm] at hcut
      have HMM : Hid (x + m = y) := by show x + m = y; omega
      have hm9 : m ≤ 1048576 := by omega
      have r1 : (r : Int) < ((N + 1 : Nat) : Int) := by omega
      have r2 : (r : Int) + 1 < ((N + 1 : Nat) : Int) := by omega
      have HLE : Hid (x ≤ y ∧ y ≤ L.length ∧ L.length ≤ lc) := ⟨hxy, hyL, hcapL⟩
      clear hso hm hxy hyL
      gi_wp2
      gi_quiet (fail)
      have HJ1 : Hid (J (rkUpto F L r) (W1.drewN nq)) := HJ.out _ _ _ HJr.out ((Turn.refl _ _ _).drewN nq)
      have HZ2 : Hid (W.heap.size ≤ (W1.drewN nq).heap.size) := HZ
      generalize hW : W1.drewN nq = W2 at *
      clear hW c1 c2 ca cb HM1 HJr HZ
      have HJ2 : Hid (J (rkUpto F L r ++ (rowOf F L r).take 0) W2) := by show J _ _; simpa using HJ1.out
      clear HJ1
      gi_wp2
      gi_loopw [25] (fun i wr => ∃ j : Nat, j ≤ m ∧ i = .int .i64 j ∧ Hid (W.heap.size ≤ wr.heap.size) ∧ Hid (J (rkUpto F L r ++ (rowOf F L r).take j) wr)) (fun i _ => m - (intOf i).toNat)
      case atStart => exact ⟨0, by omega, rfl, HZ2, HJ2⟩
      case round =>
        obtain ⟨j, hj, rfl, HZj, HJj⟩ := hrel
        rcases Nat.lt_or_eq_of_le hj with h2 | h2
        · have HM1 := HM.out _ _ HJj.out
          have hlt : x + j < L.length := by have := HLE.out; have := HMM.out; omega
          obtain ⟨z, hz⟩ : ∃ z, L[x + j]? = some z := ⟨L[x + j], List.getElem?_eq_getElem hlt⟩
          obtain ⟨zok, b, off, e1, hb, g0, g1, g2, g3⟩ := HM1.ls.at hz
          have e2 := HSO.out (by have := HMM.out; omega) b off e1
          rw [show off + (x + j) * 4 = off + x * 4 + j * 4 by omega] at g0 g1 g2 g3
          subst e1 e2
          have HP : Hid (rkUpto F L r ++ (rowOf F L r).take j ++ [(r, z)] <+: rkL F L ∧ rkUpto F L r ++ (rowOf F L r).take j ++ [(r, z)] = rkUpto F L r ++ (rowOf F L r).take (j + 1)) :=
            rk_prefix (by rw [HN.out]; omega) (by rw [HX.out.1, HX.out.2]; have := HMM.out; omega) (by rw [HX.out.1]; exact hz)
          obtain ⟨hd, wt, lf, rt⟩ := z
          dsimp only at g0 g1 g2 g3
          have HJa : Hid (J (rkUpto F L r ++ (rowOf F L r).take j) (wr.alloc (.cells #[.int .u32 (hd : Int), .int .u64 (wt : Int), .int .u32 (lf : Int), .int .u32 (rt : Int)] 65))) := HJ.out _ _ _ HJj.out ((Turn.refl _ _ _).alloc HZj.out _)
          obtain ⟨fn, tmps, assign, body, hy, hR⟩ := HY.out _ (r, ⟨hd, wt, lf, rt⟩) _ HJa.out HP.out.1
          dsimp only [encR, lvl] at hy
          clear HM1 hz
          have wr1 : IntKind.u32.wrap (r : Int) = (r : Int) := by rw [IntKind.wrap_u32]; omega
          gi_wp2
          refine ⟨fun h => (by cases h), hR.mono ?_⟩
          rintro e W3 ⟨hk3, ⟨rfl, hJ3⟩ | ⟨rfl, hJx3⟩⟩
          · have HJ3 : Hid (J (rkUpto F L r ++ (rowOf F L r).take (j + 1)) W3) := by rw [← HP.out.2]; exact hJ3
            have HZ3 : Hid (W.heap.size ≤ W3.heap.size) := Nat.le_trans HZj.out (by have := hk3.size; simp at this; omega)
            clear hJ3 hk3
            gi_wp2
            go_roundw
            case rel => exact ⟨j + 1, by omega, by simp, HZ3, HJ3⟩
            case measure => simp [intOf]; omega
          · have HX3 : Hid (Jx (rkUpto F L r ++ (rowOf F L r).take j ++ [(r, ⟨hd, wt, lf, rt⟩)]) W3) := hJx3
            clear hJx3 hk3
            gi_wp2
            refine bodyPost_ret (results_none rfl _ _ _) rfl ?_
            exact ⟨⟨_, rfl⟩, Or.inr ⟨_, HP.out.1, HX3.out⟩⟩
        · subst h2
          have HJ3 : Hid (J (rkUpto F L (r + 1)) wr) := by
            show J _ _
            rw [rkUpto_succ]
            have h3 := rowOf_len HF.out (r := r) (by rw [HN.out]; omega)
            rw [HX.out.1, HX.out.2] at h3
            have h4 := HJj.out
            rwa [List.take_of_length_le (by rw [h3]; have := HMM.out; omega)] at h4
          clear HJj
          gi_wp2
          go_roundw
          case rel => exact ⟨r + 1, by omega, by simp, HZj, HJ3⟩
          case measure => simp [intOf]; omega
    · subst h1
      gi_wp2
      go_end0
      refine ⟨⟨_, rfl⟩, Or.inl ?_⟩
      have := HJr.out
      rwa [rkL, HN.out]
end Go.Proofs.YtodilocmfdeehaaGreatDoor.Hi
