/- gtext's row, walked. (gengh.py) -/
import Derived.Test.YthgmhhlgjooeaaaGreatDoorGtG
import Derived.Test.YthgmhhlgjooeaaaGreatDoorHdM
import Derived.Deep.OwnRows
namespace Go.Proofs.YthgmhhlgjooeaaaGreatDoor.Gt
open Go Go.Lib Go.RowKit Go.Extern Hi

attribute [local go_sem] Oper.semAt_some

/-- by which error the numbers of a row are refused. -/
def numsE : List By → List (Nat × Int) → Int
  | v :: vs, b :: bd => if bnE v b.1 b.2 = 0 then numsE vs bd else bnE v b.1 b.2
  | _, _ => 0
theorem numsE_hit : ∀ (vs : List By) (bd : List (Nat × Int)) (i : Nat) {v : By} {b : Nat × Int}, (∀ (j : Nat) (u : By) (c : Nat × Int), j < i → vs[j]? = some u → bd[j]? = some c → bnE u c.1 c.2 = 0) → vs[i]? = some v → bd[i]? = some b → bnE v b.1 b.2 ≠ 0 → numsE vs bd = bnE v b.1 b.2
  | [], _, _, _, _, _, h, _, _ => by simp at h
  | _ :: _, [], _, _, _, _, _, h, _ => by simp at h
  | u :: vs, c :: bd, 0, v, b, _, h1, h2, h3 => by
    simp at h1 h2
    subst h1 h2
    rw [numsE, if_neg h3]
  | u :: vs, c :: bd, i + 1, v, b, h0, h1, h2, h3 => by
    rw [numsE, if_pos (h0 0 u c (by omega) rfl rfl)]
    exact numsE_hit vs bd i (fun j u' c' hj hu hc => h0 (j + 1) u' c' (by omega) (by simpa using hu) (by simpa using hc)) (by simpa using h1) (by simpa using h2) h3
theorem numsE_all : ∀ (vs : List By) (bd : List (Nat × Int)), (∀ (j : Nat) (u : By) (c : Nat × Int), vs[j]? = some u → bd[j]? = some c → bnE u c.1 c.2 = 0) → numsE vs bd = 0
  | [], _, _ => by simp [numsE]
  | _ :: _, [], _ => by simp [numsE]
  | u :: vs, c :: bd, h => by
    rw [numsE, if_pos (h 0 u c rfl rfl)]
    exact numsE_all vs bd fun j u' c' hu hc => h (j + 1) u' c' (by simpa using hu) (by simpa using hc)
/-- by which error a row is refused. -/
def rowE (ws : List By) (word : By) (bd : List (Nat × Int)) : Int :=
  if ws[0]? ≠ some word then 3 else if ws.length < 1 + bd.length then 5 else if 1 + bd.length < ws.length then 6 else numsE (ws.drop 1) bd
/-- bounds, in a block. -/
def BdAt (w : World) (bo : Option Addr) (B : List (Nat × Int)) : Prop := ∀ (j : Nat) (b : Nat × Int), B[j]? = some b → ∃ (g : Nat) (cur : Array Value), bo = some ⟨g, 0, none⟩ ∧ w.heap[g]? = some (.cells cur 120) ∧ cur[j * 2]? = some (.int .u64 (b.1 : Int)) ∧ cur[j * 2 + 1]? = some (.int .i64 b.2)
/-- the first numbers of a row of numbers. -/
def NmAt (w : World) (g m i : Nat) (L : List Nat) : Prop := ∃ cur : Array Value, w.heap[g]? = some (.cells cur 3) ∧ cur.size = m ∧ ∀ (j v : Nat), j < i → L[j]? = some v → cur[j]? = some (.int .i64 (v : Int))
theorem bd_ne : 120 ≠ 74 ∧ 120 ≠ 3 ∧ 9 ≠ 3 ∧ 115 ≠ 3 ∧ 74 ≠ 3 := by decide
theorem BdAt.off {rb : Nat} {w w' : World} {bo : Option Addr} {B : List (Nat × Int)} {c : Array Value} (h : BdAt w bo B) (ho : Off rb w w') (hr : w.heap[rb]? = some (.cells c 74)) : BdAt w' bo B := fun j b hj => by
  obtain ⟨g, cur, h0, h1, h2⟩ := h j b hj
  refine ⟨g, cur, h0, (ho.block _ (Array.getElem?_eq_some_iff.1 h1).1 (fun e => ?_)).trans h1, h2⟩
  rw [e, hr] at h1
  injection h1 with h1
  injection h1 with _ h1
  exact bd_ne.1 h1.symm
theorem BdAt.keep {w w' : World} {bo : Option Addr} {B : List (Nat × Int)} (h : BdAt w bo B) (hb : Below w.heap.size w w') : BdAt w' bo B := fun j b hj => by
  obtain ⟨g, cur, h0, h1, h2⟩ := h j b hj
  exact ⟨g, cur, h0, (hb.block _ (Array.getElem?_eq_some_iff.1 h1).1).trans h1, h2⟩
theorem NmAt.keep {w w' : World} {g m i : Nat} {L : List Nat} (h : NmAt w g m i L) (hb : Below w.heap.size w w') : NmAt w' g m i L := by
  obtain ⟨cur, h1, h2⟩ := h
  exact ⟨cur, (hb.block _ (Array.getElem?_eq_some_iff.1 h1).1).trans h1, h2⟩
/-- what a row's walk holds between its numbers. -/
structure RwS (w : World) (rb : Nat) (Q : List Rw) (k line g m i : Nat) (L : List Nat) (bo : Option Addr) (B : List (Nat × Int)) (wr : World) : Prop where
  rd : Rd wr rb Q k line
  off : Off rb w wr
  bds : BdAt wr bo B
  nms : NmAt wr g m i L
  new : w.heap.size ≤ g
variable {w wr wx : World} {rb k line g m i : Nat} {Q : List Rw} {L : List Nat} {bo : Option Addr} {B : List (Nat × Int)}
theorem RwS.up (h : RwS w rb Q k line g m i L bo B wr) (hb : Below wr.heap.size wr wx) : RwS w rb Q k line g m i L bo B wx :=
  ⟨h.rd.keep hb, h.off.trans (Off.of hb), h.bds.keep hb, h.nms.keep hb, h.new⟩
/-- a number more. -/
theorem RwS.put {v : Nat} (h : RwS w rb Q k line g m i L bo B wr) (hv : L[i]? = some v) (hi : i < m) : RwS w rb Q k line g m (i + 1) L bo B (wr.setCell ⟨g, i, none⟩ (.int .i64 (v : Int))) := by
  obtain ⟨cur, n1, n2, n3⟩ := h.nms
  have far : ∀ j, j ≠ g → (wr.setCell ⟨g, i, none⟩ (.int .i64 (v : Int))).heap[j]? = wr.heap[j]? := fun j hj => Below.heap_setCell _ _ _ _ (by exact hj)
  have sz : (wr.setCell ⟨g, i, none⟩ (.int .i64 (v : Int))).heap.size = wr.heap.size := by simp [World.setCell]
  have ne : ∀ {j : Nat} {c : Array Value} {T : TypeId}, T ≠ 3 → wr.heap[j]? = some (.cells c T) → j ≠ g := fun hT hj e => by
    rw [e, n1] at hj
    injection hj with hj
    injection hj with _ hj
    exact hT hj.symm
  obtain ⟨ro, rc, b1, b2, b3⟩ := h.rd.box
  refine ⟨⟨⟨ro, rc, (far _ (ne bd_ne.2.2.2.2 b1)).trans b1, b2, fun hk => ?_⟩, fun q hq => ?_, h.rd.few⟩, ⟨h.off.os, h.off.tape, h.off.output, by rw [sz]; exact h.off.size, fun j hj hn => (far j (by have := h.new; omega)).trans (h.off.block j hj hn)⟩, fun j b hj => ?_, ⟨cur.setIfInBounds i (.int .i64 (v : Int)), heap_setCell_same wr g i cur 3 _ n1, by simpa using n2, fun j u hj hu => ?_⟩, h.new⟩
  · obtain ⟨b, e, c2, g1, g2⟩ := b3 hk
    exact ⟨b, e, c2, (far _ (ne bd_ne.2.2.2.1 g1)).trans g1, g2⟩
  · obtain ⟨c2, g1, g2⟩ := h.rd.wds q hq
    exact ⟨c2, (far _ (ne bd_ne.2.2.1 g1)).trans g1, g2⟩
  · obtain ⟨g0, c2, e, g1, g2⟩ := h.bds j b hj
    exact ⟨g0, c2, e, (far _ (ne bd_ne.2.1 g1)).trans g1, g2⟩
  · by_cases e : j = i
    · subst e
      rw [hv] at hu
      rw [← Option.some.inj hu]
      simp [n2, hi]
    · rw [Array.getElem?_setIfInBounds_ne (by omega)]
      exact n3 j u (by omega) hu
/-- what row answers. -/
def RowA (w : World) (rb : Nat) (Q : List Rw) (k line : Nat) (word : By) (B : List (Nat × Int)) (e : Ending) (w' : World) : Prop :=
  ∃ (E : Int) (k' line' : Nat) (nv : Value), e = .returned (.tuple #[nv, errV E]) ∧ Rd w' rb Q k' line' ∧ Off rb w w' ∧ ((Q.length ≤ k ∧ E = 5 ∧ k' = k ∧ line' = line) ∨ ∃ q, Q[k]? = some q ∧ E = rowE (q.2.2.map bs) word B ∧ k' = k + 1 ∧ line' = q.1 ∧ (E = 0 → ∃ g, nv = .slice (some ⟨g, 0, none⟩) B.length B.length ∧ NmAt w' g B.length B.length ((q.2.2.map bs).drop 1 |>.map val) ∧ w.heap.size ≤ g))
theorem str_eq (a b : ByteArray) : (a.toList == b.toList) = decide (bs a = bs b) := by
  rw [ByteArray.toList_eq, ByteArray.toList_eq]
  unfold bs
  by_cases e : a.data.toList = b.data.toList
  · rw [e]; simp
  · rw [decide_eq_false e]; exact beq_eq_false_iff_ne.2 e

theorem nil_eq (wx : World) : (binOp .eql 111 (.slice none 0 0) (.slice none 0 0)).run Tryz.prog wx = .ok (.bool true) wx := by kernel_rfl
theorem some_eq (a : Addr) (n c : Nat) (wx : World) : (binOp .eql 111 (.slice (some a) n c) (.slice none 0 0)).run Tryz.prog wx = .ok (.bool false) wx := by kernel_rfl
set_option maxRecDepth 100000 in
set_option maxHeartbeats 8000000 in
theorem row_calls (w : World) (rb : Nat) (Q : List Rw) (k line : Nat) (s0 : ByteArray) (bo : Option Addr) (bc : Nat) (B : List (Nat × Int)) (h : Rd w rb Q k line) (hB : BdAt w bo B) (hBn : ∀ b ∈ B, b.1 ≤ 4294967296 ∧ b.2 ≠ 0) (hBl : B.length ≤ 100) :
    Calls Tryz.prog 45 #[.pointer (some ⟨rb, 0, none⟩), .string s0, .slice bo B.length bc] w (RowA w rb Q k line (bs s0) B) := by
  have HTK : Hid (type_of% (take_calls w rb Q k line h)) := take_calls w rb Q k line h
  have HRD : Hid (Rd w rb Q k line) := h
  have HBD : Hid (BdAt w bo B ∧ ∀ b ∈ B, b.1 ≤ 4294967296 ∧ b.2 ≠ 0) := ⟨hB, hBn⟩
  clear h hB hBn
  go_enter Tryz.func45, Tryz.ntmps45
  go_wp2_with fail
  refine HTK.out.mono ?_
  rintro e y1 (⟨hk, rfl, rfl⟩ | ⟨q, hq, rfl, hrd, hof⟩)
  · have hqn := nil_eq y1
    go_wp2
    go_ret2
    exact ⟨5, k, line, _, rfl, HRD.out, Off.of (Below.refl _ _), Or.inl ⟨hk, rfl, rfl, rfl⟩⟩
  · obtain ⟨hne, hl200, hx200⟩ := hrd.few q (List.mem_of_getElem? hq)
    obtain ⟨n, hn⟩ : ∃ n, q.2.2.length = n + 1 := ⟨q.2.2.length - 1, by have := List.length_pos_iff.2 hne; omega⟩
    obtain ⟨x0, hx0⟩ : ∃ x0, q.2.2[0]? = some x0 := ⟨_, List.getElem?_eq_getElem (by omega)⟩
    have HQ : Hid (Q[k]? = some q ∧ Rd y1 rb Q (k + 1) q.1 ∧ Off rb w y1 ∧ q.2.2[0]? = some x0 ∧ q.2.2.length = n + 1 ∧ ∀ x ∈ q.2.2, x.size ≤ 200) := ⟨hq, hrd, hof, hx0, hn, hx200⟩
    have HBY : Hid (BdAt y1 bo B) := by
      obtain ⟨ro, rc, b1, _⟩ := HRD.out.box
      exact HBD.out.1.off hof b1
    have HSC : Hid (∀ wx, Rd wx rb Q (k + 1) q.1 → ∀ (j : Nat) (x : ByteArray), q.2.2[j]? = some x → wx.cell? ⟨q.2.1, j, none⟩ = some (.string x) ∧ q.2.1 < wx.heap.size) := fun wx hx j x hj => by
      obtain ⟨cur, g1, g2⟩ := hx.wds q (List.mem_of_getElem? hq)
      exact ⟨by simp [World.cell?, g1, g2 j x hj], (Array.getElem?_eq_some_iff.1 g1).1⟩
    have cx := (HSC.out y1 hrd 0 x0 hx0).1
    have lx := (HSC.out y1 hrd 0 x0 hx0).2
    have hse := str_eq x0 s0
    have HW0 : Hid ((q.2.2.map bs)[0]? = some (bs x0)) := by show _ = _; rw [List.getElem?_map, hx0]; rfl
    have HLN : Hid ((q.2.2.map bs).length = n + 1) := by rw [List.length_map]; exact hn
    have i0 : (0 : Int) < (n : Int) + 1 := by omega
    have hqs := some_eq ⟨q.2.1, 0, none⟩ (n + 1) (n + 1) y1
    rw [hn] at hl200 ⊢
    clear hq hrd hof hx0 hn hx200 hne
    by_cases hw : bs x0 = bs s0
    · rw [decide_eq_true hw] at hse
      have w1 : IntKind.i64.wrap (1 + (B.length : Int)) = 1 + (B.length : Int) := by rw [IntKind.wrap_i64] <;> omega
      by_cases hl1 : n < B.length
      · have d1 : decide ((n : Int) + 1 < 1 + (B.length : Int)) = true := by simp; omega
        have HE : Hid (rowE (q.2.2.map bs) (bs s0) B = 5) := by show _ = _; unfold rowE; rw [if_neg (by rw [HW0.out, hw]; simp), if_pos (by rw [HLN.out]; omega)]
        go_wp2
        go_ret2
        exact ⟨5, k + 1, q.1, _, rfl, HQ.out.2.1, HQ.out.2.2.1, Or.inr ⟨q, HQ.out.1, HE.out.symm, rfl, rfl, fun e => by cases e⟩⟩
      · have d1 : decide ((n : Int) + 1 < 1 + (B.length : Int)) = false := by simp; omega
        by_cases hl2 : B.length < n
        · have d2 : decide ((n : Int) + 1 > 1 + (B.length : Int)) = true := by simp; omega
          have HE : Hid (rowE (q.2.2.map bs) (bs s0) B = 6) := by show _ = _; unfold rowE; rw [if_neg (by rw [HW0.out, hw]; simp), if_neg (by rw [HLN.out]; omega), if_pos (by rw [HLN.out]; omega)]
          go_wp2
          go_ret2
          exact ⟨6, k + 1, q.1, _, rfl, HQ.out.2.1, HQ.out.2.2.1, Or.inr ⟨q, HQ.out.1, HE.out.symm, rfl, rfl, fun e => by cases e⟩⟩
        · have d2 : decide ((n : Int) + 1 > 1 + (B.length : Int)) = false := by simp; omega
          have HE : Hid (rowE (q.2.2.map bs) (bs s0) B = numsE ((q.2.2.map bs).drop 1) B ∧ n = B.length) := ⟨by unfold rowE; rw [if_neg (by rw [HW0.out, hw]; simp), if_neg (by rw [HLN.out]; omega), if_neg (by rw [HLN.out]; omega)], by omega⟩
          have hmk := run_make_row' (P := Tryz.prog) 63 3 (.int .i64 0) 8 Tryz.underlying63 (by kernel_rfl) rfl .i64 .i64 B.length (by omega) (by omega)
          obtain ⟨g, hg⟩ : ∃ g, y1.heap.size = g := ⟨_, rfl⟩
          obtain ⟨W2, hW2⟩ : ∃ W2, y1.alloc (.cells (madeCells #[.int .i64 0] B.length) 3) = W2 := ⟨_, rfl⟩
          have HW2 : Hid (y1.alloc (.cells (madeCells #[.int .i64 0] B.length) 3) = W2) := hW2
          obtain ⟨V, hV⟩ : ∃ V, (q.2.2.map bs).drop 1 = V := ⟨_, rfl⟩
          have HS0 : Hid (RwS w rb Q (k + 1) q.1 g B.length 0 (V.map val) bo B W2) := by
            have hb : Below y1.heap.size y1 W2 := by rw [← hW2]; exact (Below.refl _ _).alloc (Nat.le_refl _) _
            exact ⟨HQ.out.2.1.keep hb, HQ.out.2.2.1.trans (Off.of hb), HBY.out.keep hb, ⟨_, by rw [← hW2, ← hg]; exact heap_newG _ _, by simp [madeCells], fun j v hj => absurd hj (by omega)⟩, by rw [← hg]; exact HQ.out.2.2.1.size⟩
          have HVA : Hid (∀ (j : Nat) (x : ByteArray), q.2.2[j + 1]? = some x → V[j]? = some (bs x)) := fun j x hj => by
            rw [← hV, List.getElem?_drop, List.getElem?_map, Nat.add_comm, hj]
            rfl
          rw [hV] at HE
          have HVV : Hid ((q.2.2.map bs).drop 1 = V) := hV
          clear hW2 hV
          go_upto_region 11 with fail
          rw [HW2.out]
          clear HW2 hmk cx lx hse hqs w1 d1 d2
          try rw [hg]
          go_wp2_with fail
          go_loopw [48] (fun iv wr => ∃ i : Nat, i ≤ B.length ∧ iv = .int .i64 i ∧ Hid (RwS w rb Q (k + 1) q.1 g B.length i (V.map val) bo B wr) ∧ Hid (∀ (j : Nat) (u : By) (c : Nat × Int), j < i → V[j]? = some u → B[j]? = some c → bnE u c.1 c.2 = 0)) (fun iv _ => B.length - (intOf iv).toNat)
          case atStart => exact ⟨0, Nat.zero_le _, rfl, HS0.out, fun j u c hj => absurd hj (by omega)⟩
          case round =>
            obtain ⟨i, hi, rfl, HS, HZ⟩ := hrel
            rcases Nat.lt_or_eq_of_le hi with h1 | h1
            · obtain ⟨bd, hbd⟩ : ∃ bd, B[i]? = some bd := ⟨_, List.getElem?_eq_getElem h1⟩
              obtain ⟨x, hx⟩ : ∃ x, q.2.2[i + 1]? = some x := ⟨_, List.getElem?_eq_getElem (by have := HQ.out.2.2.2.2.1; have := HE.out.2; omega)⟩
              obtain ⟨gb, cur, hbo, b1, b2, b3⟩ := HS.out.bds i bd hbd
              subst hbo
              have e0 : wr.cell? ⟨gb, i * 2, none⟩ = some (.int .u64 (bd.1 : Int)) := by simp [World.cell?, b1, b2]
              have e1 : wr.cell? ⟨gb, i * 2 + 1, none⟩ = some (.int .i64 bd.2) := by simp [World.cell?, b1, b3]
              have gl : gb < wr.heap.size := (Array.getElem?_eq_some_iff.1 b1).1
              obtain ⟨p, hp⟩ : ∃ p, wr.heap.size = p := ⟨_, rfl⟩
              obtain ⟨W7, hW7⟩ : ∃ W7, wr.alloc (.cells #[.int .u64 (bd.1 : Int), .int .i64 bd.2] 120) = W7 := ⟨_, rfl⟩
              have HW7 : Hid (wr.alloc (.cells #[.int .u64 (bd.1 : Int), .int .i64 bd.2] 120) = W7) := hW7
              have HBB : Hid (bd.1 ≤ 4294967296 ∧ bd.2 ≠ 0) := HBD.out.2 bd (List.mem_of_getElem? hbd)
              have HXV : Hid (V[i]? = some (bs x) ∧ B[i]? = some bd ∧ x.size ≤ 200) := ⟨HVA.out i x hx, hbd, HQ.out.2.2.2.2.2 x (List.mem_of_getElem? hx)⟩
              have HS7 : Hid (∀ wx, Below W7.heap.size W7 wx → RwS w rb Q (k + 1) q.1 g B.length i (V.map val) (some ⟨gb, 0, none⟩) B wx ∧ (fun w' : World => w'.cell? ⟨p, 0, none⟩ = some (.int .u64 (bd.1 : Int)) ∧ w'.cell? ⟨p, 1, none⟩ = some (.int .i64 bd.2) ∧ w'.cell? ⟨q.2.1, i + 1, none⟩ = some (.string x) ∧ Hid (Below W7.heap.size W7 w')) wx) := fun wx hb => by
                have n1 : W7.heap[p]? = some (.cells #[.int .u64 (bd.1 : Int), .int .i64 bd.2] 120) := by rw [← hW7, ← hp]; exact heap_newG _ _
                have hb7 : Below wr.heap.size wr W7 := by rw [← hW7]; exact (Below.refl _ _).alloc (Nat.le_refl _) _
                have hS := HS.out.up (btrG hb7 hb)
                have n2 := (hb.block _ (Array.getElem?_eq_some_iff.1 n1).1).trans n1
                exact ⟨hS, by simp [World.cell?, n2], by simp [World.cell?, n2], (HSC.out wx hS.rd (i + 1) x hx).1, hb⟩
              have HNM : Hid (∀ wx : World, (fun w' : World => w'.cell? ⟨p, 0, none⟩ = some (.int .u64 (bd.1 : Int)) ∧ w'.cell? ⟨p, 1, none⟩ = some (.int .i64 bd.2) ∧ w'.cell? ⟨q.2.1, i + 1, none⟩ = some (.string x) ∧ Hid (Below W7.heap.size W7 w')) wx → Calls Tryz.prog 61 #[.agg #[.int .u64 (bd.1 : Int), .int .i64 bd.2], .string x] wx fun e w' => e = .returned (.tuple #[.int .i64 (bnV (bs x) bd.1 bd.2), errV (bnE (bs x) bd.1 bd.2)]) ∧ Grows wx w' ∧ (fun w' : World => w'.cell? ⟨p, 0, none⟩ = some (.int .u64 (bd.1 : Int)) ∧ w'.cell? ⟨p, 1, none⟩ = some (.int .i64 bd.2) ∧ w'.cell? ⟨q.2.1, i + 1, none⟩ = some (.string x) ∧ Hid (Below W7.heap.size W7 w')) w') := fun wx hSS => by
                have hb : Below W7.heap.size W7 wx := hSS.2.2.2.out
                exact (bnum_calls bd.1 bd.2 x wx (by have := HXV.out.2.2; omega) HBB.out.1 HBB.out.2).mono (by rintro e w' ⟨rfl, hb2⟩; exact ⟨rfl, hb2, (HS7.out w' (btrG hb hb2)).2⟩)
              have j1 : (0 : Int) ≤ (i : Int) := by omega
              have j2 : (i : Int) < (B.length : Int) := by omega
              have j3 : decide ((i : Int) < (B.length : Int)) = true := by simp; omega
              have j4 : IntKind.i64.wrap (1 + (i : Int)) = 1 + (i : Int) := by rw [IntKind.wrap_i64] <;> omega
              have j5 : 1 + (i : Int) < (n : Int) + 1 := by have := HE.out.2; omega
              have j6 : (0 : Int) ≤ 1 + (i : Int) := by omega
              have j7 : (1 + (i : Int)).toNat = i + 1 := by omega
              clear hW7 hbd hx b1 b2 b3
              go_upto_region 14 with fail
              rw [HW7.out]
              clear HW7 e0 e1 gl
              try rw [hp]
              obtain ⟨BV, hBV⟩ : ∃ BV, bnV (bs x) bd.1 bd.2 = BV := ⟨_, rfl⟩
              obtain ⟨BE, hBE⟩ : ∃ BE, bnE (bs x) bd.1 bd.2 = BE := ⟨_, rfl⟩
              have HBV : Hid (bnV (bs x) bd.1 bd.2 = BV ∧ bnE (bs x) bd.1 bd.2 = BE) := ⟨hBV, hBE⟩
              rw [hBV, hBE] at HNM
              clear hBV hBE
              refine wp_region_M (S := (fun w' : World => w'.cell? ⟨p, 0, none⟩ = some (.int .u64 (bd.1 : Int)) ∧ w'.cell? ⟨p, 1, none⟩ = some (.int .i64 bd.2) ∧ w'.cell? ⟨q.2.1, i + 1, none⟩ = some (.string x) ∧ Hid (Below W7.heap.size W7 w'))) (by kernel_rfl) (HS7.out _ (Below.refl _ _).drew).2 ?_
              refine wpAnyM_take (i := 0) (oi := { dst := Option.some 54, op := Op.load 120 (Operand.tmp 11), type := 120, pos := "gtext.go:130", after := #[], guard := Option.none }) (v := ?va1z0) rfl (by kernel_rfl) (by kernel_rfl) (by kernel_rfl) (fun _ _ _ h => h) (YieldsM.of_if (Or.inl ⟨by rfl, ?ha1z0⟩)) ?ra1z0
              case ha1z0 => ((intro wz hSw; (try dsimp only at hSw); go_simp); try (with_reducible rfl))
              try simp only [Act.put, List.setIfInBounds_toArray, List.set_cons_zero, List.set_cons_succ]
              refine wpAnyM_take (i := 1) (oi := { dst := Option.some 55, op := Op.move (Operand.tmp 8), type := 111, pos := "gtext.go:130", after := #[], guard := Option.none }) (v := ?va2z1) rfl (by kernel_rfl) (by kernel_rfl) (by kernel_rfl) (fun _ _ _ h => h) (YieldsM.of_if (Or.inl ⟨by rfl, ?ha2z1⟩)) ?ra2z1
              case ha2z1 => ((intro wz hSw; (try dsimp only at hSw); go_simp); try (with_reducible rfl))
              try simp only [Act.put, List.setIfInBounds_toArray, List.set_cons_zero, List.set_cons_succ]
              refine wpAnyM_take (i := 2) (oi := { dst := Option.some 56, op := Op.move (Operand.tmp 10), type := 3, pos := "gtext.go:130", after := #[], guard := Option.none }) (v := ?va3z2) rfl (by kernel_rfl) (by kernel_rfl) (by kernel_rfl) (fun _ _ _ h => h) (YieldsM.of_if (Or.inl ⟨by rfl, ?ha3z2⟩)) ?ra3z2
              case ha3z2 => ((intro wz hSw; (try dsimp only at hSw); go_simp); try (with_reducible rfl))
              try simp only [Act.put, List.setIfInBounds_toArray, List.set_cons_zero, List.set_cons_succ]
              refine wpAnyM_take (i := 3) (oi := { dst := Option.some 57, op := Op.binOp BinOp.add 3 (Operand.const (Value.int IntKind.i64 1)) (Operand.tmp 56) 3, type := 3, pos := "gtext.go:130", after := #[{ on := 2, ground := Ground.data }], guard := Option.none }) (v := ?va4z3) rfl (by kernel_rfl) (by kernel_rfl) (by kernel_rfl) (fun _ _ _ h => h) (YieldsM.of_if (Or.inl ⟨by rfl, ?ha4z3⟩)) ?ra4z3
              case ha4z3 => ((intro wz hSw; (try dsimp only at hSw); go_simp); try (with_reducible rfl))
              try simp only [Act.put, List.setIfInBounds_toArray, List.set_cons_zero, List.set_cons_succ]
              refine wpAnyM_take (i := 4) (oi := { dst := Option.some 58, op := Op.indexAddr 111 (Operand.tmp 55) (Operand.tmp 57), type := 0, pos := "gtext.go:130", after := #[{ on := 1, ground := Ground.data }, { on := 3, ground := Ground.data }], guard := Option.none }) (v := ?va5z4) rfl (by kernel_rfl) (by kernel_rfl) (by kernel_rfl) (fun _ _ _ h => h) (YieldsM.of_if (Or.inl ⟨by rfl, ?ha5z4⟩)) ?ra5z4
              case ha5z4 => ((intro wz hSw; (try dsimp only at hSw); go_simp); try (with_reducible rfl))
              try simp only [Act.put, List.setIfInBounds_toArray, List.set_cons_zero, List.set_cons_succ]
              refine wpAnyM_take (i := 5) (oi := { dst := Option.some 59, op := Op.load 9 (Operand.tmp 58), type := 9, pos := "gtext.go:130", after := #[{ on := 4, ground := Ground.data }], guard := Option.none }) (v := ?va6z5) rfl (by kernel_rfl) (by kernel_rfl) (by kernel_rfl) (fun _ _ _ h => h) (YieldsM.of_if (Or.inl ⟨by rfl, ?ha6z5⟩)) ?ra6z5
              case ha6z5 => ((intro wz hSw; (try dsimp only at hSw); go_simp); try (with_reducible rfl))
              try simp only [Act.put, List.setIfInBounds_toArray, List.set_cons_zero, List.set_cons_succ]
              refine wpAnyM_take (i := 6) (oi := { dst := Option.some 60, op := Op.call { callee := Callee.value (Operand.func 61), args := #[Operand.tmp 54, Operand.tmp 59], argTypes := #[120, 9] }, type := 64, pos := "gtext.go:130", after := #[{ on := 0, ground := Ground.data }, { on := 5, ground := Ground.data }], guard := Option.none }) (v := (.tuple #[.int .i64 BV, errV BE])) rfl (by kernel_rfl) (by kernel_rfl) (by kernel_rfl) (fun _ _ _ h => h) (YieldsM.of_call (f := 61) (by rfl) (fun _ _ => by kernel_rfl) (HNM.out)) ?_
              try simp only [Act.put, List.setIfInBounds_toArray, List.set_cons_zero, List.set_cons_succ]
              refine wpAnyM_take (i := 7) (oi := { dst := Option.some 53, op := Op.move (Operand.tmp 60), type := 64, pos := "gtext.go:130", after := #[{ on := 6, ground := Ground.data }], guard := Option.none }) (v := ?va7z7) rfl (by kernel_rfl) (by kernel_rfl) (by kernel_rfl) (fun _ _ _ h => h) (YieldsM.of_if (Or.inl ⟨by rfl, ?ha7z7⟩)) ?ra7z7
              case ha7z7 => ((intro wz hSw; (try dsimp only at hSw); go_simp); try (with_reducible rfl))
              try simp only [Act.put, List.setIfInBounds_toArray, List.set_cons_zero, List.set_cons_succ]
              refine wpAnyM_take (i := 8) (oi := { dst := Option.some 61, op := Op.extract (Operand.tmp 53) 0, type := 3, pos := "gtext.go:130", after := #[{ on := 7, ground := Ground.data }], guard := Option.none }) (v := ?va8z8) rfl (by kernel_rfl) (by kernel_rfl) (by kernel_rfl) (fun _ _ _ h => h) (YieldsM.of_if (Or.inl ⟨by rfl, ?ha8z8⟩)) ?ra8z8
              case ha8z8 => ((intro wz hSw; (try dsimp only at hSw); go_simp); try (with_reducible rfl))
              try simp only [Act.put, List.setIfInBounds_toArray, List.set_cons_zero, List.set_cons_succ]
              refine wpAnyM_take (i := 9) (oi := { dst := Option.some 62, op := Op.extract (Operand.tmp 53) 1, type := 26, pos := "gtext.go:130", after := #[{ on := 7, ground := Ground.data }, { on := 10, ground := Ground.gcOnly Departure.lateStores }], guard := Option.none }) (v := ?va9z9) rfl (by kernel_rfl) (by kernel_rfl) (by kernel_rfl) (fun _ _ _ h => h) (YieldsM.of_if (Or.inl ⟨by rfl, ?ha9z9⟩)) ?ra9z9
              case ha9z9 => ((intro wz hSw; (try dsimp only at hSw); go_simp); try (with_reducible rfl))
              try simp only [Act.put, List.setIfInBounds_toArray, List.set_cons_zero, List.set_cons_succ]
              refine wpAnyM_take (i := 10) (oi := { dst := Option.some 12, op := Op.assign (Operand.tmp 61), type := 3, pos := "gtext.go:130", after := #[{ on := 8, ground := Ground.data }, { on := 6, ground := Ground.chain }, { on := 0, ground := Ground.phase }, { on := 1, ground := Ground.phase }, { on := 2, ground := Ground.phase }, { on := 3, ground := Ground.phase }, { on := 4, ground := Ground.phase }, { on := 5, ground := Ground.phase }, { on := 6, ground := Ground.phase }, { on := 7, ground := Ground.phase }, { on := 8, ground := Ground.phase }, { on := 9, ground := Ground.textOnly Departure.lateStores }], guard := Option.none }) (v := ?va10z10) rfl (by kernel_rfl) (by kernel_rfl) (by kernel_rfl) (fun _ _ _ h => h) (YieldsM.of_if (Or.inl ⟨by rfl, ?ha10z10⟩)) ?ra10z10
              case ha10z10 => ((intro wz hSw; (try dsimp only at hSw); go_simp); try (with_reducible rfl))
              try simp only [Act.put, List.setIfInBounds_toArray, List.set_cons_zero, List.set_cons_succ]
              refine wpAnyM_take (i := 11) (oi := { dst := Option.some 13, op := Op.assign (Operand.tmp 62), type := 26, pos := "gtext.go:130", after := #[{ on := 9, ground := Ground.data }, { on := 10, ground := Ground.chain }, { on := 0, ground := Ground.phase }, { on := 1, ground := Ground.phase }, { on := 2, ground := Ground.phase }, { on := 3, ground := Ground.phase }, { on := 4, ground := Ground.phase }, { on := 5, ground := Ground.phase }, { on := 6, ground := Ground.phase }, { on := 7, ground := Ground.phase }, { on := 8, ground := Ground.phase }, { on := 9, ground := Ground.phase }, { on := 10, ground := Ground.phase }], guard := Option.none }) (v := ?va11z11) rfl (by kernel_rfl) (by kernel_rfl) (by kernel_rfl) (fun _ _ _ h => h) (YieldsM.of_if (Or.inl ⟨by rfl, ?ha11z11⟩)) ?ra11z11
              case ha11z11 => ((intro wz hSw; (try dsimp only at hSw); go_simp); try (with_reducible rfl))
              try simp only [Act.put, List.setIfInBounds_toArray, List.set_cons_zero, List.set_cons_succ]
              refine wpAnyM_done (by kernel_rfl) ?_ _
              intro u9 hg9 hS9
              have HS9 : Hid (RwS w rb Q (k + 1) q.1 g B.length i (V.map val) (some ⟨gb, 0, none⟩) B u9) := (HS7.out u9 hS9.2.2.2.out).1
              clear hS9 hg9 HNM
              by_cases hz : BE = 0
              · have hev : errV BE = .nilIface := by rw [hz]; rfl
                rw [hev]
                have HBV2 : Hid (BV = ((val (bs x) : Nat) : Int) ∧ bnE (bs x) bd.1 bd.2 = 0) := by
                  obtain ⟨r1, r2⟩ := HBV.out
                  rw [hz] at r2
                  unfold bnV at r1
                  rw [if_pos r2] at r1
                  exact ⟨r1.symm, r2⟩
                obtain ⟨cur9, m1, m2, _⟩ := HS9.out.nms
                obtain ⟨c9, hc9⟩ : ∃ c9, cur9[i]? = some c9 := ⟨_, Array.getElem?_eq_getElem (by omega)⟩
                have g0 : u9.cell? ⟨g, i, none⟩ = some c9 := by simp [World.cell?, m1, hc9]
                have g1 : u9.frozen? ⟨g, i, none⟩ = false := by simp [World.frozen?, m1]
                have HP : Hid (RwS w rb Q (k + 1) q.1 g B.length (i + 1) (V.map val) (some ⟨gb, 0, none⟩) B (u9.setCell ⟨g, i, none⟩ (.int .i64 BV))) := by
                  rw [HBV2.out.1]
                  exact HS9.out.put (by rw [List.getElem?_map, HXV.out.1]; rfl) h1
                have HZ2 : Hid (∀ (j : Nat) (u : By) (c : Nat × Int), j < i + 1 → V[j]? = some u → B[j]? = some c → bnE u c.1 c.2 = 0) := fun j u c hj hu hc => by
                  by_cases e : j = i
                  · subst e
                    rw [HXV.out.1] at hu
                    rw [HXV.out.2.1] at hc
                    rw [← Option.some.inj hu, ← Option.some.inj hc]
                    exact HBV2.out.2
                  · exact HZ.out j u c (by omega) hu hc
                clear hev m1 m2 hc9
                go_wp2_with fail
                go_roundw
                case rel => exact ⟨i + 1, by omega, by rw [show (i : Int) + 1 = ((i + 1 : Nat) : Int) by omega], HP, HZ2⟩
                case measure => simp only [intOf]; omega
              · have hev : errV BE = .iface 29 (.int .i64 BE) := by unfold errV; rw [if_neg hz]
                have HEE : Hid (rowE (q.2.2.map bs) (bs s0) B = BE) := by
                  show _ = _
                  rw [HE.out.1, numsE_hit V B i HZ.out HXV.out.1 HXV.out.2.1 (by rw [HBV.out.2]; exact hz), HBV.out.2]
                have HNZ : Hid (BE ≠ 0) := hz
                rw [hev]
                clear hz
                go_wp2
                go_ret2
                exact ⟨BE, k + 1, q.1, _, by rw [hev]; rfl, HS9.out.rd, HS9.out.off, Or.inr ⟨q, HQ.out.1, HEE.out.symm, rfl, rfl, fun e => absurd e HNZ.out⟩⟩
            · have j3 : decide ((i : Int) < (B.length : Int)) = false := by simp; omega
              subst h1
              have HEE : Hid (rowE (q.2.2.map bs) (bs s0) B = 0) := by
                show _ = _
                rw [HE.out.1]
                exact numsE_all V B fun j u c hu hc => HZ.out j u c (List.getElem?_eq_some_iff.1 hc).1 hu hc
              go_wp2
              go_ret2
              exact ⟨0, k + 1, q.1, _, rfl, HS.out.rd, HS.out.off, Or.inr ⟨q, HQ.out.1, HEE.out.symm, rfl, rfl, fun _ => ⟨g, rfl, by rw [HVV.out]; exact HS.out.nms, HS.out.new⟩⟩⟩
    · rw [decide_eq_false hw] at hse
      have HE : Hid (rowE (q.2.2.map bs) (bs s0) B = 3) := by show _ = _; unfold rowE; rw [if_pos (by rw [HW0.out]; simpa using hw)]
      go_wp2
      go_ret2
      exact ⟨3, k + 1, q.1, _, rfl, HQ.out.2.1, HQ.out.2.2.1, Or.inr ⟨q, HQ.out.1, HE.out.symm, rfl, rfl, fun e => by cases e⟩⟩
end Go.Proofs.YthgmhhlgjooeaaaGreatDoor.Gt
