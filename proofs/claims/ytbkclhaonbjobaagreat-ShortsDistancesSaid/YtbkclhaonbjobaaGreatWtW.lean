/- The search's settle, walked. (genwtw.py) -/
import Derived.Test.YtbkclhaonbjobaaGreatWtV
import Derived.Test.YtbkclhaonbjobaaGreatOvH
namespace Go.Proofs.YtbkclhaonbjobaaGreat.Wt
open Go Go.RowKit Go.Extern

attribute [local go_sem] Oper.semAt_some

/-- what a search stands on: the overlay's lists, the goals, the arcs as the document's search has them. -/
structure Srr (wB : World) (n : Nat) (c0 c2 : Value) (skip : Int) (G : List Int) (rowv : Nat → List (Int × Int × Int)) (zs : List (Int × Int × Int)) : Prop where
  out : ∀ wx, Below wB.heap.size wB wx → ∀ v : Nat, v < n → Calls Tryz.prog 11 #[c0, .int .i64 v] wx fun e w' => ∃ so sc, e = .returned (.slice so (rowv v).length sc) ∧ w'.ownsRow wx.heap.size 49 3 (.slice so (rowv v).length sc) (rowv v).length (flatH (rowv v)) ∧ Below wx.heap.size wx w'
  bs : ∀ wx, Below wB.heap.size wB wx → ∀ v : Nat, v < n → Calls Tryz.prog 111 #[c2, .int .i64 v] wx fun e w' => ∃ p, e = .returned (.tuple #[.int .i64 p, .bool (G.contains (v : Int))]) ∧ Below wx.heap.size wx w'
  fine : Fine n zs
  row : ∀ v, v < n → arcRow zs (firstAt zs v) (firstAt zs (v + 1)) = ((rowv v).filter fun a => a.1 != skip).map fun a => ((v : Int), a.1, a.2.1)
  len : ∀ v, v < n → (rowv v).length ≤ n
  wt : ∀ v, v < n → ∀ a ∈ rowv v, 0 ≤ a.1 ∧ a.1 < (n : Int) ∧ 0 ≤ a.2.1 ∧ a.2.1 ≤ 140737488355328
/-- one arc of the overlay, looked at. -/
def lookA (skip : Int) (v : Nat) (k h : Int) (S : FS) (a : Int × Int × Int) : FS := if a.1 = skip then S else relax1 v k h S ((v : Int), a.1, a.2.1)
theorem look_skip {skip : Int} {v : Nat} {k h : Int} {S : FS} {x : Nat} {r z : Int} (e : (x : Int) = skip) : lookA skip v k h S ((x : Int), r, z) = S := by
  unfold lookA; rw [if_pos e]
theorem look_no {skip : Int} {v : Nat} {k h : Int} {S : FS} {x : Nat} {r z : Int} (e : (x : Int) ≠ skip) (hb : S.better x (k + r) = false) : lookA skip v k h S ((x : Int), r, z) = S := by
  unfold lookA relax1; rw [if_neg e]
  simp only [Int.toNat_natCast]
  rw [hb]; rfl
theorem look_yes {skip : Int} {v : Nat} {k h : Int} {S : FS} {x : Nat} {r z : Int} (e : (x : Int) ≠ skip) (hb : S.better x (k + r) = true) : lookA skip v k h S ((x : Int), r, z) = S.lab x (k + r) (h + 1) v := by
  unfold lookA relax1; rw [if_neg e]
  simp only [Int.toNat_natCast]
  rw [hb]; rfl
theorem fold_look (skip : Int) (v : Nat) (k h : Int) : ∀ (l : List (Int × Int × Int)) (S : FS), l.foldl (lookA skip v k h) S = ((l.filter fun a => a.1 != skip).map fun a => ((v : Int), a.1, a.2.1)).foldl (relax1 v k h) S
  | [], _ => rfl
  | a :: l, S => by
    rw [List.foldl_cons, fold_look skip v k h l]
    by_cases e : a.1 = skip
    · have e2 : (a.1 != skip) = false := by simp [e]
      rw [List.filter_cons_of_neg (by rw [e2]; simp)]
      unfold lookA
      rw [if_pos e]
    · have e2 : (a.1 != skip) = true := by simp [e]
      rw [List.filter_cons_of_pos (by rw [e2])]
      unfold lookA
      rw [if_neg e]
      rfl
theorem Srr.step {wB : World} {n : Nat} {c0 c2 : Value} {skip : Int} {G : List Int} {rowv : Nat → List (Int × Int × Int)} {zs : List (Int × Int × Int)} (h : Srr wB n c0 c2 skip G rowv zs) {v : Nat} (hv : v < n) (hb : Int) (S : FS) (k : Int) : S.step zs hb v k = if S.hs v < hb then (rowv v).foldl (lookA skip v k (S.hs v)) (S.pop v) else S.pop v := by
  unfold FS.step
  rw [h.row v hv, fold_look]
/-- a search above a base. -/
structure WB (wB w : World) (sb mb nm : Nat) (c0 c1 c2 c3 sv : Value) (L : Int → Option (Int × Int)) (Q : List Th) : Prop where
  s : WS w sb mb nm c0 c1 c2 c3 sv L Q
  b : Below wB.heap.size wB w
  lo : wB.heap.size ≤ sb ∧ wB.heap.size ≤ mb ∧ ∀ k, sv.ownBlock = some k → wB.heap.size ≤ k
section
variable {wB w w' : World} {sb mb nm : Nat} {c0 c1 c2 c3 sv sv' : Value} {L L' : Int → Option (Int × Int)} {Q Q' : List Th}
theorem WB.next {nm' : Nat} {c3' : Value} (h : WB wB w sb mb nm c0 c1 c2 c3 sv L Q) (hs : WS w' sb mb nm' c0 c1 c2 c3' sv' L' Q') (hf : SFr sb mb sv sv' w w') : WB wB w' sb mb nm' c0 c1 c2 c3' sv' L' Q' :=
  ⟨hs, h.b.trans (hf.below h.b.size h.lo.1 h.lo.2.1 h.lo.2.2), h.lo.1, h.lo.2.1, fun k hk => by
    rcases Nat.lt_or_ge k w.heap.size with hlt | hge
    · exact h.lo.2.2 k (hf.own k hlt hk)
    · exact Nat.le_trans h.b.size hge⟩
theorem WB.up (h : WB wB w sb mb nm c0 c1 c2 c3 sv L Q) (hb : Below w.heap.size w w') : WB wB w' sb mb nm c0 c1 c2 c3 sv L Q := h.next (h.s.up hb) (SFr.of_below hb)
/-- the count of goals is laid anew. -/
theorem WS.setLeft (h : WS w sb mb nm c0 c1 c2 c3 sv L Q) (v : Value) : WS (w.setCell ⟨sb, 3, none⟩ v) sb mb nm c0 c1 c2 v sv L Q ∧ SFr sb mb sv sv w (w.setCell ⟨sb, 3, none⟩ v) := by
  have hk : ∀ k, k ≠ sb → (w.setCell ⟨sb, 3, none⟩ v).heap[k]? = w.heap[k]? := fun k hk => heap_setCell_other _ _ _ _ hk
  refine ⟨⟨⟨⟨by rw [heap_setCell_sameW _ h.q.mem.box]; rfl, ?_, h.q.mem.hp⟩, h.q.heap⟩, h.m.keep (hk _ h.apart.1)⟩, ⟨rfl, rfl, rfl, by simp, fun k _ h1 _ _ => hk k h1, fun k _ e => e⟩⟩
  obtain ⟨r1, r2⟩ := h.q.mem.row
  refine ⟨r1, ?_⟩
  rcases r2 with r2 | ⟨g, cap, cur, e, hb', hh, r⟩
  · exact Or.inl r2
  · exact Or.inr ⟨g, cap, cur, e, hb', (hk g (fun e' => h.q.mem.hp (by rw [e, e']; rfl))).trans hh, r⟩
end
/-- how many goals are left behind a node. -/
def leftA (G : List Int) (v : Nat) (left : Int) : Int := if G.contains (v : Int) = true then left - 1 else left
/-- what settle leaves. -/
def SetlA (wB : World) (n : Nat) (sb mb nm : Nat) (c0 c1 c2 : Value) (left : Int) (Q : List Th) (S2 : FS) (e : Ending) (w' : World) : Prop := e = .returned (.tuple #[]) ∧ ∃ sv' L' Q' nm', WB wB w' sb mb nm' c0 c1 c2 (.int .i64 left) sv' L' Q' ∧ Rel n S2 L' Q' ∧ Q'.length ≤ Q.length + n ∧ nm' ≤ nm + n
section
variable {wB w : World} {n sb mb nm : Nat} {c0 c2 sv : Value} {skip : Int} {G : List Int} {rowv : Nat → List (Int × Int × Int)} {zs : List (Int × Int × Int)} {L : Int → Option (Int × Int)} {Q : List Th} {S : FS}
set_option maxRecDepth 100000 in
set_option maxHeartbeats 8000000 in
theorem wsettle_calls (hs : Srr wB n c0 c2 skip G rowv zs) (left : Int) (hb : WB wB w sb mb nm c0 (.int .i64 skip) c2 (.int .i64 left) sv L Q) {v : Nat} {k : Int} (hv : v < n) (hk : S.vs[v]? = some (some k)) (hR : Rel n (S.pop v) L Q) (hops : Int) (hn : n ≤ 1000) (hk0 : 0 ≤ k ∧ k ≤ 9223372036854775808) (hh : 0 ≤ S.hs v ∧ S.hs v ≤ 65536) (hl : Q.length ≤ 1040000) (hnm : nm ≤ 1040000) (hle : -1048576 ≤ left ∧ left ≤ 1048576) :
    Calls Tryz.prog 104 #[.pointer (some ⟨sb, 0, none⟩), .int .i64 v, .int .i64 hops] w fun e w' => SetlA wB n sb mb nm c0 (.int .i64 skip) c2 (leftA G v left) Q (S.step zs hops v k) e w' := by
  have HS : Hid (Srr wB n c0 c2 skip G rowv zs) := hs
  have HB : Hid (WB wB w sb mb nm c0 (.int .i64 skip) c2 (.int .i64 left) sv L Q ∧ Rel n (S.pop v) L Q ∧ S.vs[v]? = some (some k)) := ⟨hb, hR, hk⟩
  have HN : Hid (n ≤ 1000 ∧ Q.length ≤ 1040000 ∧ nm ≤ 1040000) := ⟨hn, hl, hnm⟩
  have HBS : Hid (type_of% (hs.bs w hb.b v hv)) := hs.bs w hb.b v hv
  have HST : Hid (type_of% (hs.step hv hops S k)) := hs.step hv hops S k
  have HLV : Hid (L (v : Int) = some (k, S.hs v)) := hR.lab v k hk
  obtain ⟨kh, hkh⟩ : ∃ kh, S.hs v = kh := ⟨_, rfl⟩
  rw [hkh] at hh HST HLV
  obtain ⟨r0, r1⟩ := hh
  obtain ⟨r2, r3⟩ := hk0
  obtain ⟨_, _, k2, k3, k4, _, k6, _⟩ := hb.s.cells
  have kl := lt_of_get hb.s.q.mem.box
  have i5 : IntKind.i64.wrap (left - 1) = left - 1 := by rw [IntKind.wrap_i64] <;> omega
  clear hs hb hR hk hn hl hnm
  go_enter Tryz.func104, Tryz.ntmps104
  go_wp2_with fail
  refine HBS.out.mono ?_
  rintro e y1 ⟨bp, rfl, hy1⟩
  have HY1 : Hid (WB wB y1 sb mb nm c0 (.int .i64 skip) c2 (.int .i64 left) sv L Q) := HB.out.1.up hy1
  clear hy1 HBS k2 k3 k4 k6 kl
  obtain ⟨_, _, k2, k3, k4, _, k6, _⟩ := HY1.out.s.cells
  have kl := lt_of_get HY1.out.s.q.mem.box
  cases hc : G.contains (v : Int) with
  | true =>
    obtain ⟨W2, hW2⟩ : ∃ W2, y1.setCell ⟨sb, 3, none⟩ (.int .i64 (left - 1)) = W2 := ⟨_, rfl⟩
    have HE2 : Hid (y1.setCell ⟨sb, 3, none⟩ (.int .i64 (left - 1)) = W2) := hW2
    have HW2 : Hid (WB wB W2 sb mb nm c0 (.int .i64 skip) c2 (.int .i64 (left - 1)) sv L Q) := by
      rw [← hW2]
      exact HY1.out.next (HY1.out.s.setLeft _).1 (HY1.out.s.setLeft _).2
    clear hW2
    go_upto_region 3 with fail
    rw [HE2.out]
    clear k2 k3 k4 k6 kl
    obtain ⟨lf, hlf⟩ : ∃ lf, left - 1 = lf := ⟨_, rfl⟩
    have HLF : Hid (leftA G v left = lf) := by show leftA G v left = lf; unfold leftA; rw [if_pos hc]; exact hlf
    rw [hlf] at HW2
    clear hlf hc
    obtain ⟨_, _, _, _, m4, _⟩ := HW2.out.s.cells
    have hLk : (Instr.lookup 173 (.map (some mb)) (.int .i64 (v : Int)) false).run Tryz.prog W2 = .ok (.agg #[.int .u64 k, .int .i64 kh]) W2 := by
      have h1 := HW2.out.s.m.look (wf_nat (v := v) (by have := HN.out; omega))
      rw [HLV.out] at h1
      exact h1
    obtain ⟨pf, hpf⟩ : ∃ pf, W2.heap.size = pf := ⟨_, rfl⟩
    obtain ⟨W3, hW3⟩ : ∃ W3, W2.alloc (.cells #[.int .u64 k, .int .i64 kh] 180) = W3 := ⟨_, rfl⟩
    have HW3 : Hid (W2.alloc (.cells #[.int .u64 k, .int .i64 kh] 180) = W3) := hW3
    have hB3 : Below W2.heap.size W2 W3 := by rw [← hW3]; exact (Below.refl _ _).alloc (Nat.le_refl _) _
    have hbx3 : W3.heap[pf]? = some (.cells #[.int .u64 k, .int .i64 kh] 180) := by rw [← hW3, ← hpf]; exact heap_new _ _
    have HB3 : Hid (WB wB W3 sb mb nm c0 (.int .i64 skip) c2 (.int .i64 lf) sv L Q ∧ W3.heap[pf]? = some (.cells #[.int .u64 k, .int .i64 kh] 180) ∧ sb < pf ∧ mb < pf ∧ ∀ j, sv.ownBlock = some j → j < pf) := ⟨HW2.out.up hB3, hbx3, by rw [← hpf]; exact lt_of_get HW2.out.s.q.mem.box, by rw [← hpf]; exact HW2.out.s.m.lt, fun j hj => by
      rw [← hpf]
      obtain ⟨_, _, hc⟩ := own_cells HW2.out.s.q.mem hj
      exact lt_of_get hc⟩
    have q0 : W3.cell? ⟨pf, 0, none⟩ = some (.int .u64 k) := cell_ofW hbx3 rfl
    have q1 : W3.cell? ⟨pf, 1, none⟩ = some (.int .i64 kh) := cell_ofW hbx3 rfl
    clear hW3 hB3 hbx3
    go_upto_region 4 with fail
    rw [HW3.out]
    try rw [hpf]
    clear hLk m4 hpf
    by_cases hop : kh < hops
    · have j1 : decide (hops ≤ kh) = false := by simp; omega
      have j2 : ¬ hops ≤ kh := by omega
      have HOU : Hid (type_of% (HS.out.out W3 HB3.out.1.b v hv)) := HS.out.out W3 HB3.out.1.b v hv
      have HSS : Hid (S.step zs hops v k = (rowv v).foldl (lookA skip v k kh) (S.pop v)) := by show _ = _; rw [HST.out, if_pos hop]
      obtain ⟨m0, _, _, _, _, _⟩ := HB3.out.1.s.cells
      clear hop
      go_wp2_with fail
      refine HOU.out.mono ?_
      rintro e y4 ⟨so, sc, rfl, hrow, hy4⟩
      have HRL : Hid ((rowv v).length ≤ n ∧ ∀ a ∈ rowv v, 0 ≤ a.1 ∧ a.1 < (n : Int) ∧ 0 ≤ a.2.1 ∧ a.2.1 ≤ 140737488355328) := ⟨HS.out.len v hv, HS.out.wt v hv⟩
      obtain ⟨R, hR⟩ : ∃ R, rowv v = R := ⟨_, rfl⟩
      rw [hR] at hrow HRL HSS ⊢
      clear hR HOU q0 q1 m0
      have HF4 : Hid (∀ sv' wx, SFr sb mb sv sv' y4 wx → HasHs wx (.slice so R.length sc) R ∧ wx.cell? ⟨pf, 0, none⟩ = some (.int .u64 k) ∧ wx.cell? ⟨pf, 1, none⟩ = some (.int .i64 kh) ∧ pf < wx.heap.size) := fun sv' wx hx => by
        have hp4 := (hy4.block _ (lt_of_get HB3.out.2.1)).trans HB3.out.2.1
        obtain ⟨_, g1, g2, g3⟩ := HB3.out.2
        have hpw := (hx.block pf (lt_of_get hp4) (by omega) (by omega) (fun e => by have := g3 _ e.symm; omega)).trans hp4
        refine ⟨hs_of_rowH (base := W3.heap.size) ⟨hrow.1, ?_⟩, cell_ofW hpw rfl, cell_ofW hpw rfl, lt_of_get hpw⟩
        rcases hrow.2 with h2 | ⟨g, cap, cur, e, hb, hh, r⟩
        · exact Or.inl h2
        · have hpl := lt_of_get HB3.out.2.1
          exact Or.inr ⟨g, cap, cur, e, hb, (hx.block g (lt_of_get hh) (by omega) (by omega) (fun e => by have := g3 _ e.symm; omega)).trans hh, r⟩
      have HW4 : Hid (WB wB y4 sb mb nm c0 (.int .i64 skip) c2 (.int .i64 lf) sv L Q) := HB3.out.1.up hy4
      clear hrow hy4
      go_wp2_with fail
      go_loopw [48] (fun iv wr => ∃ (i : Nat) (sv' : Value) (L' : Int → Option (Int × Int)) (Q' : List Th) (nm' : Nat), iv = .int .i64 i ∧ i ≤ R.length ∧ WB wB wr sb mb nm' c0 (.int .i64 skip) c2 (.int .i64 lf) sv' L' Q' ∧ SFr sb mb sv sv' y4 wr ∧ Rel n ((R.take i).foldl (lookA skip v k kh) (S.pop v)) L' Q' ∧ Q'.length ≤ Q.length + i ∧ nm' ≤ nm + i) (fun iv _ => R.length - (intOf iv).toNat)
      case atStart => exact ⟨0, sv, L, Q, nm, rfl, Nat.zero_le _, HW4.out, SFr.refl _ _ _ _, HB.out.2.1, Nat.le_refl _, Nat.le_refl _⟩
      case round =>
        obtain ⟨i, sv', L', Q', nm', rfl, hi, hw, hf, hr, hq, hn'⟩ := hrel
        have HR : Hid (WB wB wr sb mb nm' c0 (.int .i64 skip) c2 (.int .i64 lf) sv' L' Q' ∧ SFr sb mb sv sv' y4 wr ∧ Rel n ((R.take i).foldl (lookA skip v k kh) (S.pop v)) L' Q' ∧ Q'.length ≤ Q.length + i ∧ nm' ≤ nm + i) := ⟨hw, hf, hr, hq, hn'⟩
        obtain ⟨hHs, q0, q1, ql⟩ := HF4.out sv' wr hf
        clear hw hf hr hq hn'
        by_cases hlt : i < R.length
        · obtain ⟨a, ha⟩ : ∃ a, R[i]? = some a := ⟨R[i], List.getElem?_eq_getElem hlt⟩
          obtain ⟨b, off, hso, bl, p0, p1, p2⟩ := hHs.at ha
          obtain ⟨w0, w1, w2, w3⟩ := HRL.out.2 a (List.mem_of_getElem? ha)
          obtain ⟨a1, r, z⟩ := a
          obtain ⟨x, rfl⟩ : ∃ x : Nat, a1 = (x : Int) := ⟨a1.toNat, by simp only at w0; omega⟩
          simp only at p0 p1 p2 w0 w1 w2 w3
          subst hso
          have HA : Hid (R[i]? = some ((x : Int), r, z) ∧ x < n ∧ R.take (i + 1) = R.take i ++ [((x : Int), r, z)]) := ⟨ha, by omega, by rw [List.take_add_one, ha]; rfl⟩
          have i1 : (i : Int) < (R.length : Int) := by omega
          have ib : i < 1000 := by have := HRL.out.1; have := HN.out.1; omega
          have i2 : (0 : Int) ≤ (i : Int) := by omega
          obtain ⟨W7, hW7⟩ : ∃ W7, wr.alloc (.cells #[.int .i64 (x : Int), .int .u64 r, .int .i64 z] 49) = W7 := ⟨_, rfl⟩
          have HW7 : Hid (wr.alloc (.cells #[.int .i64 (x : Int), .int .u64 r, .int .i64 z] 49) = W7) := hW7
          have hB7 : Below wr.heap.size wr W7 := by rw [← hW7]; exact (Below.refl _ _).alloc (Nat.le_refl _) _
          obtain ⟨ph, hph⟩ : ∃ ph, wr.heap.size = ph := ⟨_, rfl⟩
          have hbx7 : W7.heap[ph]? = some (.cells #[.int .i64 (x : Int), .int .u64 r, .int .i64 z] 49) := by rw [← hW7, ← hph]; exact heap_new _ _
          have hW7B := HR.out.1.up hB7
          have HB7 : Hid (WB wB W7 sb mb nm' c0 (.int .i64 skip) c2 (.int .i64 lf) sv' L' Q' ∧ SFr sb mb sv sv' y4 W7) := ⟨hW7B, HR.out.2.1.trans (SFr.of_below hB7)⟩
          obtain ⟨_, q0, q1, ql⟩ := HF4.out sv' W7 HB7.out.2
          have h70 : W7.cell? ⟨ph, 0, none⟩ = some (.int .i64 (x : Int)) := cell_ofW hbx7 rfl
          have h71 : W7.cell? ⟨ph, 1, none⟩ = some (.int .u64 r) := cell_ofW hbx7 rfl
          have hl7 := lt_of_get hbx7
          have sl7 := lt_of_get hW7B.s.q.mem.box
          obtain ⟨_, m1, _, _, m4, _⟩ := hW7B.s.cells
          obtain ⟨⟨kd, kg⟩, hkd⟩ : ∃ p, (L' (x : Int)).getD (0, 0) = p := ⟨_, rfl⟩
          obtain ⟨hs, hhs⟩ : ∃ b, (L' (x : Int)).isSome = b := ⟨_, rfl⟩
          have HLX : Hid ((L' (x : Int)).getD (0, 0) = (kd, kg) ∧ (L' (x : Int)).isSome = hs) := ⟨hkd, hhs⟩
          have wfx := wf_nat (v := x) (by have := HA.out.2.1; have := HN.out.1; omega)
          have hLk1 : (Instr.lookup 173 (.map (some mb)) (.int .i64 (x : Int)) true).run Tryz.prog W7.drew = .ok (.tuple #[.agg #[.int .u64 kd, .int .i64 kg], .bool hs]) W7.drew := by
            have h1 := (hW7B.s.m.keep (w' := W7.drew) rfl).lookOk wfx
            rw [hkd, hhs] at h1
            exact h1
          have hLk2 : ∀ o, (Instr.lookup 173 (.map (some mb)) (.int .i64 (x : Int)) true).run Tryz.prog (W7.alloc o).drew = .ok (.tuple #[.agg #[.int .u64 kd, .int .i64 kg], .bool hs]) (W7.alloc o).drew := fun o => by
            have h1 := (hW7B.s.m.keep (w' := (W7.alloc o).drew) (((Below.refl _ W7).alloc (Nat.le_refl _) o).block _ hW7B.s.m.lt)).lookOk wfx
            rw [hkd, hhs] at h1
            exact h1
          have HNP : Hid (W7.heap[ph]? = some (.cells #[.int .i64 (x : Int), .int .u64 r, .int .i64 z] 49)) := hbx7
          clear hW7 hB7 hbx7 hW7B hkd hhs wfx ha hHs
          go_upto_region 8 with fail
          rw [HW7.out]
          try rw [hph]
          clear hph p0 p1 p2 bl
          go_upto_region 9 with fail
          go_region
          obtain ⟨p9, hp9⟩ : ∃ p, W7.heap.size = p := ⟨_, rfl⟩
          obtain ⟨W9, hW9⟩ : ∃ W, (W7.alloc (.cells #[.int .u64 kd, .int .i64 kg] 180)).drew = W := ⟨_, rfl⟩
          have HW9 : Hid ((W7.alloc (.cells #[.int .u64 kd, .int .i64 kg] 180)).drew = W9) := hW9
          have hB9 : Below W7.heap.size W7 W9 := by rw [← hW9]; exact ((Below.refl _ _).alloc (Nat.le_refl _) _).drew
          have hbx9 : W9.heap[p9]? = some (.cells #[.int .u64 kd, .int .i64 kg] 180) := by rw [← hW9, ← hp9]; exact heap_new _ _
          have HB9 : Hid (WB wB W9 sb mb nm' c0 (.int .i64 skip) c2 (.int .i64 lf) sv' L' Q' ∧ SFr sb mb sv sv' y4 W9) := ⟨HB7.out.1.up hB9, HB7.out.2.trans (SFr.of_below hB9)⟩
          have h92 : W9.cell? ⟨p9, 0, none⟩ = some (.int .u64 kd) := cell_ofW hbx9 rfl
          have h93 : W9.cell? ⟨p9, 1, none⟩ = some (.int .i64 kg) := cell_ofW hbx9 rfl
          have hb79 := (hB9.block _ (lt_of_get HNP.out)).trans HNP.out
          have h90 : W9.cell? ⟨ph, 0, none⟩ = some (.int .i64 (x : Int)) := cell_ofW hb79 rfl
          have h91 : W9.cell? ⟨ph, 1, none⟩ = some (.int .u64 r) := cell_ofW hb79 rfl
          go_upto_region 10 with fail
          rw [HW9.out]
          try rw [hp9]
          clear q0 q1 ql h70 h71 hl7 sl7 m1 m4 hLk1 hLk2 hW9 hB9 hbx9 hb79 hp9
          obtain ⟨_, q0, q1, ql⟩ := HF4.out sv' W9 HB9.out.2
          obtain ⟨_, m1, _, _, _, _⟩ := HB9.out.1.s.cells
          have sl9 := lt_of_get HB9.out.1.s.q.mem.box
          have HASK : Hid (((R.take i).foldl (lookA skip v k kh) (S.pop v)).better x (k + r) = (!hs || decide (k + r < kd))) := by
            show _ = _
            rw [HR.out.2.2.1.asks HA.out.2.1, HLX.out.1, HLX.out.2]
          by_cases hsk : (x : Int) = skip
          · have n1 : ((x : Int) != skip) = false := by rw [hsk]; simp
            have NSK : Hid ((x : Int) = skip) := hsk
            clear hsk
            go_wp2_with fail
            go_quiet (fail)
            have HX : Hid (WB wB (W9.drewN nq) sb mb nm' c0 (.int .i64 skip) c2 (.int .i64 lf) sv' L' Q' ∧ SFr sb mb sv sv' y4 (W9.drewN nq)) := ⟨HB9.out.1.next (HB9.out.1.s.drewN nq) ((SFr.refl _ _ _ _).drewN nq), HB9.out.2.drewN nq⟩
            clear q0 q1 ql h90 h91 h92 h93 m1 sl9
            go_wp2
            go_roundw
            case rel => exact ⟨i + 1, sv', L', Q', nm', by go_num, by omega, HX.out.1, HX.out.2, by rw [HA.out.2.2, List.foldl_append]; show Rel n (lookA skip v k kh _ _) L' Q'; rw [look_skip NSK.out]; exact HR.out.2.2.1, by have := HR.out.2.2.2.1; omega, by have := HR.out.2.2.2.2; omega⟩
            case measure => simp [intOf]; omega
          · have n1 : ((x : Int) != skip) = true := bne_iff_ne.2 hsk
            have NSK : Hid ((x : Int) ≠ skip) := hsk
            clear hsk
            cases hs with
            | false =>
              have HBT : Hid (((R.take i).foldl (lookA skip v k kh) (S.pop v)).better x (k + r) = true) := HASK.out.trans rfl
              have HSET : Hid (∀ q, Calls Tryz.prog 102 #[.pointer (some ⟨sb, 0, none⟩), .int .i64 (x : Int), .agg #[.int .u64 (k + r), .int .i64 (kh + 1)]] (W9.drewN q) fun e w' => e = .returned (.tuple #[]) ∧ ∃ s2 Q2, WS w' sb mb (nm' + 1) c0 (.int .i64 skip) c2 (.int .i64 lf) s2 (updL L' (x : Int) (k + r, kh + 1)) Q2 ∧ SFr sb mb sv' s2 (W9.drewN q) w' ∧ Q2.Perm ((k + r, (x : Int)) :: Q')) := fun q => wset_calls (HB9.out.1.s.drewN q) (x : Int) (wf_nat (v := x) (by have := HA.out.2.1; have := HN.out.1; omega)) (k + r) (kh + 1) (by have := HR.out.2.2.2.1; have := HN.out; have := HRL.out.1; omega) (by have := HR.out.2.2.2.2; have := HN.out; have := HRL.out.1; unfold maxLen; omega)
              go_wp2_with fail
              go_quiet (fail)
              clear h92 h93 m1
              go_wp2_with fail
              refine (HSET.out _).mono ?_
              rintro e y10 ⟨rfl, s2, Q2, hs2, hf2, hp2⟩
              have HX : Hid (WB wB y10 sb mb (nm' + 1) c0 (.int .i64 skip) c2 (.int .i64 lf) s2 (updL L' (x : Int) (k + r, kh + 1)) Q2 ∧ SFr sb mb sv s2 y4 y10) := ⟨(HB9.out.1.next (HB9.out.1.s.drewN nq) ((SFr.refl _ _ _ _).drewN nq)).next hs2 hf2, (HB9.out.2.drewN nq).trans hf2⟩
              have HPP : Hid (Q2.Perm ((k + r, (x : Int)) :: Q') ∧ Q2.length = Q'.length + 1) := ⟨hp2, by rw [hp2.length_eq]; rfl⟩
              clear hs2 hf2 hp2 HSET q0 q1 ql h90 h91 sl9
              go_wp2
              go_roundw
              case rel => exact ⟨i + 1, s2, updL L' (x : Int) (k + r, kh + 1), Q2, nm' + 1, by go_num, by omega, HX.out.1, HX.out.2, by rw [HA.out.2.2, List.foldl_append]; show Rel n (lookA skip v k kh _ _) _ Q2; rw [look_yes NSK.out HBT.out]; exact HR.out.2.2.1.laid HA.out.2.1 HBT.out HPP.out.1, by have := HR.out.2.2.2.1; have := HPP.out.2; omega, by have := HR.out.2.2.2.2; omega⟩
              case measure => simp [intOf]; omega
            | true =>
              by_cases hlt2 : k + r < kd
              · have g1 : decide (k + r < kd) = true := decide_eq_true hlt2
                have HBT : Hid (((R.take i).foldl (lookA skip v k kh) (S.pop v)).better x (k + r) = true) := HASK.out.trans (by rw [g1]; rfl)
                have HSET : Hid (∀ q, Calls Tryz.prog 102 #[.pointer (some ⟨sb, 0, none⟩), .int .i64 (x : Int), .agg #[.int .u64 (k + r), .int .i64 (kh + 1)]] (W9.drewN q) fun e w' => e = .returned (.tuple #[]) ∧ ∃ s2 Q2, WS w' sb mb (nm' + 1) c0 (.int .i64 skip) c2 (.int .i64 lf) s2 (updL L' (x : Int) (k + r, kh + 1)) Q2 ∧ SFr sb mb sv' s2 (W9.drewN q) w' ∧ Q2.Perm ((k + r, (x : Int)) :: Q')) := fun q => wset_calls (HB9.out.1.s.drewN q) (x : Int) (wf_nat (v := x) (by have := HA.out.2.1; have := HN.out.1; omega)) (k + r) (kh + 1) (by have := HR.out.2.2.2.1; have := HN.out; have := HRL.out.1; omega) (by have := HR.out.2.2.2.2; have := HN.out; have := HRL.out.1; unfold maxLen; omega)
                go_wp2_with fail
                go_quiet (fail)
                clear h92 h93 m1
                go_wp2_with fail
                refine (HSET.out _).mono ?_
                rintro e y10 ⟨rfl, s2, Q2, hs2, hf2, hp2⟩
                have HX : Hid (WB wB y10 sb mb (nm' + 1) c0 (.int .i64 skip) c2 (.int .i64 lf) s2 (updL L' (x : Int) (k + r, kh + 1)) Q2 ∧ SFr sb mb sv s2 y4 y10) := ⟨(HB9.out.1.next (HB9.out.1.s.drewN nq) ((SFr.refl _ _ _ _).drewN nq)).next hs2 hf2, (HB9.out.2.drewN nq).trans hf2⟩
                have HPP : Hid (Q2.Perm ((k + r, (x : Int)) :: Q') ∧ Q2.length = Q'.length + 1) := ⟨hp2, by rw [hp2.length_eq]; rfl⟩
                clear hs2 hf2 hp2 HSET q0 q1 ql h90 h91 sl9
                go_wp2
                go_roundw
                case rel => exact ⟨i + 1, s2, updL L' (x : Int) (k + r, kh + 1), Q2, nm' + 1, by go_num, by omega, HX.out.1, HX.out.2, by rw [HA.out.2.2, List.foldl_append]; show Rel n (lookA skip v k kh _ _) _ Q2; rw [look_yes NSK.out HBT.out]; exact HR.out.2.2.1.laid HA.out.2.1 HBT.out HPP.out.1, by have := HR.out.2.2.2.1; have := HPP.out.2; omega, by have := HR.out.2.2.2.2; omega⟩
                case measure => simp [intOf]; omega
              · have g1 : decide (k + r < kd) = false := decide_eq_false hlt2
                have HBT : Hid (((R.take i).foldl (lookA skip v k kh) (S.pop v)).better x (k + r) = false) := HASK.out.trans (by rw [g1]; rfl)
                clear hlt2
                go_wp2_with fail
                go_quiet (fail)
                have HX : Hid (WB wB (W9.drewN nq) sb mb nm' c0 (.int .i64 skip) c2 (.int .i64 lf) sv' L' Q' ∧ SFr sb mb sv sv' y4 (W9.drewN nq)) := ⟨HB9.out.1.next (HB9.out.1.s.drewN nq) ((SFr.refl _ _ _ _).drewN nq), HB9.out.2.drewN nq⟩
                clear q0 q1 ql h90 h91 h92 h93 m1 sl9
                go_wp2
                go_roundw
                case rel => exact ⟨i + 1, sv', L', Q', nm', by go_num, by omega, HX.out.1, HX.out.2, by rw [HA.out.2.2, List.foldl_append]; show Rel n (lookA skip v k kh _ _) L' Q'; rw [look_no NSK.out HBT.out]; exact HR.out.2.2.1, by have := HR.out.2.2.2.1; omega, by have := HR.out.2.2.2.2; omega⟩
                case measure => simp [intOf]; omega
        · obtain rfl : i = R.length := by omega
          have HZ : Hid (∃ sv' L' Q' nm', WB wB wr sb mb nm' c0 (.int .i64 skip) c2 (.int .i64 lf) sv' L' Q' ∧ Rel n (S.step zs hops v k) L' Q' ∧ Q'.length ≤ Q.length + n ∧ nm' ≤ nm + n) := ⟨sv', L', Q', nm', HR.out.1, by have h1 := HR.out.2.2.1; rw [List.take_length] at h1; rw [HSS.out]; exact h1, by have := HR.out.2.2.2; have := HRL.out.1; omega, by have := HR.out.2.2.2; have := HRL.out.1; omega⟩
          clear hHs q0 q1 ql
          go_wp2
          go_end0
          rw [HLF.out]
          exact ⟨rfl, HZ.out⟩
    · have j1 : decide (hops ≤ kh) = true := by simp; omega
      have j2 : hops ≤ kh := by omega
      have HSS : Hid (S.step zs hops v k = S.pop v) := by show _ = _; rw [HST.out, if_neg hop]
      clear hop
      go_wp2
      refine bodyPost_ret (v := .tuple #[]) (by simp [results, Tryz.results104]) rfl ?_
      rw [HLF.out, HSS.out]
      exact ⟨rfl, sv, L, Q, nm, HB3.out.1, HB.out.2.1, by omega, by omega⟩
  | false =>
    obtain ⟨W2, hW2⟩ : ∃ W2, y1 = W2 := ⟨_, rfl⟩
    subst hW2
    have HW2 : Hid (WB wB y1 sb mb nm c0 (.int .i64 skip) c2 (.int .i64 left) sv L Q) := HY1.out
    have HLF : Hid (leftA G v left = left) := by show leftA G v left = left; unfold leftA; rw [if_neg (by rw [hc]; simp)]
    clear k2 k3 k4 k6 kl hc
    go_upto_region 3 with fail
    obtain ⟨_, _, _, _, m4, _⟩ := HW2.out.s.cells
    have hLk : (Instr.lookup 173 (.map (some mb)) (.int .i64 (v : Int)) false).run Tryz.prog y1 = .ok (.agg #[.int .u64 k, .int .i64 kh]) y1 := by
      have h1 := HW2.out.s.m.look (wf_nat (v := v) (by have := HN.out; omega))
      rw [HLV.out] at h1
      exact h1
    obtain ⟨pf, hpf⟩ : ∃ pf, y1.heap.size = pf := ⟨_, rfl⟩
    obtain ⟨W3, hW3⟩ : ∃ W3, y1.alloc (.cells #[.int .u64 k, .int .i64 kh] 180) = W3 := ⟨_, rfl⟩
    have HW3 : Hid (y1.alloc (.cells #[.int .u64 k, .int .i64 kh] 180) = W3) := hW3
    have hB3 : Below y1.heap.size y1 W3 := by rw [← hW3]; exact (Below.refl _ _).alloc (Nat.le_refl _) _
    have hbx3 : W3.heap[pf]? = some (.cells #[.int .u64 k, .int .i64 kh] 180) := by rw [← hW3, ← hpf]; exact heap_new _ _
    have HB3 : Hid (WB wB W3 sb mb nm c0 (.int .i64 skip) c2 (.int .i64 left) sv L Q ∧ W3.heap[pf]? = some (.cells #[.int .u64 k, .int .i64 kh] 180) ∧ sb < pf ∧ mb < pf ∧ ∀ j, sv.ownBlock = some j → j < pf) := ⟨HW2.out.up hB3, hbx3, by rw [← hpf]; exact lt_of_get HW2.out.s.q.mem.box, by rw [← hpf]; exact HW2.out.s.m.lt, fun j hj => by
      rw [← hpf]
      obtain ⟨_, _, hc⟩ := own_cells HW2.out.s.q.mem hj
      exact lt_of_get hc⟩
    have q0 : W3.cell? ⟨pf, 0, none⟩ = some (.int .u64 k) := cell_ofW hbx3 rfl
    have q1 : W3.cell? ⟨pf, 1, none⟩ = some (.int .i64 kh) := cell_ofW hbx3 rfl
    clear hW3 hB3 hbx3
    go_upto_region 4 with fail
    rw [HW3.out]
    try rw [hpf]
    clear hLk m4 hpf
    by_cases hop : kh < hops
    · have j1 : decide (hops ≤ kh) = false := by simp; omega
      have j2 : ¬ hops ≤ kh := by omega
      have HOU : Hid (type_of% (HS.out.out W3 HB3.out.1.b v hv)) := HS.out.out W3 HB3.out.1.b v hv
      have HSS : Hid (S.step zs hops v k = (rowv v).foldl (lookA skip v k kh) (S.pop v)) := by show _ = _; rw [HST.out, if_pos hop]
      obtain ⟨m0, _, _, _, _, _⟩ := HB3.out.1.s.cells
      clear hop
      go_wp2_with fail
      refine HOU.out.mono ?_
      rintro e y4 ⟨so, sc, rfl, hrow, hy4⟩
      have HRL : Hid ((rowv v).length ≤ n ∧ ∀ a ∈ rowv v, 0 ≤ a.1 ∧ a.1 < (n : Int) ∧ 0 ≤ a.2.1 ∧ a.2.1 ≤ 140737488355328) := ⟨HS.out.len v hv, HS.out.wt v hv⟩
      obtain ⟨R, hR⟩ : ∃ R, rowv v = R := ⟨_, rfl⟩
      rw [hR] at hrow HRL HSS ⊢
      clear hR HOU q0 q1 m0
      have HF4 : Hid (∀ sv' wx, SFr sb mb sv sv' y4 wx → HasHs wx (.slice so R.length sc) R ∧ wx.cell? ⟨pf, 0, none⟩ = some (.int .u64 k) ∧ wx.cell? ⟨pf, 1, none⟩ = some (.int .i64 kh) ∧ pf < wx.heap.size) := fun sv' wx hx => by
        have hp4 := (hy4.block _ (lt_of_get HB3.out.2.1)).trans HB3.out.2.1
        obtain ⟨_, g1, g2, g3⟩ := HB3.out.2
        have hpw := (hx.block pf (lt_of_get hp4) (by omega) (by omega) (fun e => by have := g3 _ e.symm; omega)).trans hp4
        refine ⟨hs_of_rowH (base := W3.heap.size) ⟨hrow.1, ?_⟩, cell_ofW hpw rfl, cell_ofW hpw rfl, lt_of_get hpw⟩
        rcases hrow.2 with h2 | ⟨g, cap, cur, e, hb, hh, r⟩
        · exact Or.inl h2
        · have hpl := lt_of_get HB3.out.2.1
          exact Or.inr ⟨g, cap, cur, e, hb, (hx.block g (lt_of_get hh) (by omega) (by omega) (fun e => by have := g3 _ e.symm; omega)).trans hh, r⟩
      have HW4 : Hid (WB wB y4 sb mb nm c0 (.int .i64 skip) c2 (.int .i64 left) sv L Q) := HB3.out.1.up hy4
      clear hrow hy4
      go_wp2_with fail
      go_loopw [48] (fun iv wr => ∃ (i : Nat) (sv' : Value) (L' : Int → Option (Int × Int)) (Q' : List Th) (nm' : Nat), iv = .int .i64 i ∧ i ≤ R.length ∧ WB wB wr sb mb nm' c0 (.int .i64 skip) c2 (.int .i64 left) sv' L' Q' ∧ SFr sb mb sv sv' y4 wr ∧ Rel n ((R.take i).foldl (lookA skip v k kh) (S.pop v)) L' Q' ∧ Q'.length ≤ Q.length + i ∧ nm' ≤ nm + i) (fun iv _ => R.length - (intOf iv).toNat)
      case atStart => exact ⟨0, sv, L, Q, nm, rfl, Nat.zero_le _, HW4.out, SFr.refl _ _ _ _, HB.out.2.1, Nat.le_refl _, Nat.le_refl _⟩
      case round =>
        obtain ⟨i, sv', L', Q', nm', rfl, hi, hw, hf, hr, hq, hn'⟩ := hrel
        have HR : Hid (WB wB wr sb mb nm' c0 (.int .i64 skip) c2 (.int .i64 left) sv' L' Q' ∧ SFr sb mb sv sv' y4 wr ∧ Rel n ((R.take i).foldl (lookA skip v k kh) (S.pop v)) L' Q' ∧ Q'.length ≤ Q.length + i ∧ nm' ≤ nm + i) := ⟨hw, hf, hr, hq, hn'⟩
        obtain ⟨hHs, q0, q1, ql⟩ := HF4.out sv' wr hf
        clear hw hf hr hq hn'
        by_cases hlt : i < R.length
        · obtain ⟨a, ha⟩ : ∃ a, R[i]? = some a := ⟨R[i], List.getElem?_eq_getElem hlt⟩
          obtain ⟨b, off, hso, bl, p0, p1, p2⟩ := hHs.at ha
          obtain ⟨w0, w1, w2, w3⟩ := HRL.out.2 a (List.mem_of_getElem? ha)
          obtain ⟨a1, r, z⟩ := a
          obtain ⟨x, rfl⟩ : ∃ x : Nat, a1 = (x : Int) := ⟨a1.toNat, by simp only at w0; omega⟩
          simp only at p0 p1 p2 w0 w1 w2 w3
          subst hso
          have HA : Hid (R[i]? = some ((x : Int), r, z) ∧ x < n ∧ R.take (i + 1) = R.take i ++ [((x : Int), r, z)]) := ⟨ha, by omega, by rw [List.take_add_one, ha]; rfl⟩
          have i1 : (i : Int) < (R.length : Int) := by omega
          have ib : i < 1000 := by have := HRL.out.1; have := HN.out.1; omega
          have i2 : (0 : Int) ≤ (i : Int) := by omega
          obtain ⟨W7, hW7⟩ : ∃ W7, wr.alloc (.cells #[.int .i64 (x : Int), .int .u64 r, .int .i64 z] 49) = W7 := ⟨_, rfl⟩
          have HW7 : Hid (wr.alloc (.cells #[.int .i64 (x : Int), .int .u64 r, .int .i64 z] 49) = W7) := hW7
          have hB7 : Below wr.heap.size wr W7 := by rw [← hW7]; exact (Below.refl _ _).alloc (Nat.le_refl _) _
          obtain ⟨ph, hph⟩ : ∃ ph, wr.heap.size = ph := ⟨_, rfl⟩
          have hbx7 : W7.heap[ph]? = some (.cells #[.int .i64 (x : Int), .int .u64 r, .int .i64 z] 49) := by rw [← hW7, ← hph]; exact heap_new _ _
          have hW7B := HR.out.1.up hB7
          have HB7 : Hid (WB wB W7 sb mb nm' c0 (.int .i64 skip) c2 (.int .i64 left) sv' L' Q' ∧ SFr sb mb sv sv' y4 W7) := ⟨hW7B, HR.out.2.1.trans (SFr.of_below hB7)⟩
          obtain ⟨_, q0, q1, ql⟩ := HF4.out sv' W7 HB7.out.2
          have h70 : W7.cell? ⟨ph, 0, none⟩ = some (.int .i64 (x : Int)) := cell_ofW hbx7 rfl
          have h71 : W7.cell? ⟨ph, 1, none⟩ = some (.int .u64 r) := cell_ofW hbx7 rfl
          have hl7 := lt_of_get hbx7
          have sl7 := lt_of_get hW7B.s.q.mem.box
          obtain ⟨_, m1, _, _, m4, _⟩ := hW7B.s.cells
          obtain ⟨⟨kd, kg⟩, hkd⟩ : ∃ p, (L' (x : Int)).getD (0, 0) = p := ⟨_, rfl⟩
          obtain ⟨hs, hhs⟩ : ∃ b, (L' (x : Int)).isSome = b := ⟨_, rfl⟩
          have HLX : Hid ((L' (x : Int)).getD (0, 0) = (kd, kg) ∧ (L' (x : Int)).isSome = hs) := ⟨hkd, hhs⟩
          have wfx := wf_nat (v := x) (by have := HA.out.2.1; have := HN.out.1; omega)
          have hLk1 : (Instr.lookup 173 (.map (some mb)) (.int .i64 (x : Int)) true).run Tryz.prog W7.drew = .ok (.tuple #[.agg #[.int .u64 kd, .int .i64 kg], .bool hs]) W7.drew := by
            have h1 := (hW7B.s.m.keep (w' := W7.drew) rfl).lookOk wfx
            rw [hkd, hhs] at h1
            exact h1
          have hLk2 : ∀ o, (Instr.lookup 173 (.map (some mb)) (.int .i64 (x : Int)) true).run Tryz.prog (W7.alloc o).drew = .ok (.tuple #[.agg #[.int .u64 kd, .int .i64 kg], .bool hs]) (W7.alloc o).drew := fun o => by
            have h1 := (hW7B.s.m.keep (w' := (W7.alloc o).drew) (((Below.refl _ W7).alloc (Nat.le_refl _) o).block _ hW7B.s.m.lt)).lookOk wfx
            rw [hkd, hhs] at h1
            exact h1
          have HNP : Hid (W7.heap[ph]? = some (.cells #[.int .i64 (x : Int), .int .u64 r, .int .i64 z] 49)) := hbx7
          clear hW7 hB7 hbx7 hW7B hkd hhs wfx ha hHs
          go_upto_region 8 with fail
          rw [HW7.out]
          try rw [hph]
          clear hph p0 p1 p2 bl
          go_upto_region 9 with fail
          go_region
          obtain ⟨p9, hp9⟩ : ∃ p, W7.heap.size = p := ⟨_, rfl⟩
          obtain ⟨W9, hW9⟩ : ∃ W, (W7.alloc (.cells #[.int .u64 kd, .int .i64 kg] 180)).drew = W := ⟨_, rfl⟩
          have HW9 : Hid ((W7.alloc (.cells #[.int .u64 kd, .int .i64 kg] 180)).drew = W9) := hW9
          have hB9 : Below W7.heap.size W7 W9 := by rw [← hW9]; exact ((Below.refl _ _).alloc (Nat.le_refl _) _).drew
          have hbx9 : W9.heap[p9]? = some (.cells #[.int .u64 kd, .int .i64 kg] 180) := by rw [← hW9, ← hp9]; exact heap_new _ _
          have HB9 : Hid (WB wB W9 sb mb nm' c0 (.int .i64 skip) c2 (.int .i64 left) sv' L' Q' ∧ SFr sb mb sv sv' y4 W9) := ⟨HB7.out.1.up hB9, HB7.out.2.trans (SFr.of_below hB9)⟩
          have h92 : W9.cell? ⟨p9, 0, none⟩ = some (.int .u64 kd) := cell_ofW hbx9 rfl
          have h93 : W9.cell? ⟨p9, 1, none⟩ = some (.int .i64 kg) := cell_ofW hbx9 rfl
          have hb79 := (hB9.block _ (lt_of_get HNP.out)).trans HNP.out
          have h90 : W9.cell? ⟨ph, 0, none⟩ = some (.int .i64 (x : Int)) := cell_ofW hb79 rfl
          have h91 : W9.cell? ⟨ph, 1, none⟩ = some (.int .u64 r) := cell_ofW hb79 rfl
          go_upto_region 10 with fail
          rw [HW9.out]
          try rw [hp9]
          clear q0 q1 ql h70 h71 hl7 sl7 m1 m4 hLk1 hLk2 hW9 hB9 hbx9 hb79 hp9
          obtain ⟨_, q0, q1, ql⟩ := HF4.out sv' W9 HB9.out.2
          obtain ⟨_, m1, _, _, _, _⟩ := HB9.out.1.s.cells
          have sl9 := lt_of_get HB9.out.1.s.q.mem.box
          have HASK : Hid (((R.take i).foldl (lookA skip v k kh) (S.pop v)).better x (k + r) = (!hs || decide (k + r < kd))) := by
            show _ = _
            rw [HR.out.2.2.1.asks HA.out.2.1, HLX.out.1, HLX.out.2]
          by_cases hsk : (x : Int) = skip
          · have n1 : ((x : Int) != skip) = false := by rw [hsk]; simp
            have NSK : Hid ((x : Int) = skip) := hsk
            clear hsk
            go_wp2_with fail
            go_quiet (fail)
            have HX : Hid (WB wB (W9.drewN nq) sb mb nm' c0 (.int .i64 skip) c2 (.int .i64 left) sv' L' Q' ∧ SFr sb mb sv sv' y4 (W9.drewN nq)) := ⟨HB9.out.1.next (HB9.out.1.s.drewN nq) ((SFr.refl _ _ _ _).drewN nq), HB9.out.2.drewN nq⟩
            clear q0 q1 ql h90 h91 h92 h93 m1 sl9
            go_wp2
            go_roundw
            case rel => exact ⟨i + 1, sv', L', Q', nm', by go_num, by omega, HX.out.1, HX.out.2, by rw [HA.out.2.2, List.foldl_append]; show Rel n (lookA skip v k kh _ _) L' Q'; rw [look_skip NSK.out]; exact HR.out.2.2.1, by have := HR.out.2.2.2.1; omega, by have := HR.out.2.2.2.2; omega⟩
            case measure => simp [intOf]; omega
          · have n1 : ((x : Int) != skip) = true := bne_iff_ne.2 hsk
            have NSK : Hid ((x : Int) ≠ skip) := hsk
            clear hsk
            cases hs with
            | false =>
              have HBT : Hid (((R.take i).foldl (lookA skip v k kh) (S.pop v)).better x (k + r) = true) := HASK.out.trans rfl
              have HSET : Hid (∀ q, Calls Tryz.prog 102 #[.pointer (some ⟨sb, 0, none⟩), .int .i64 (x : Int), .agg #[.int .u64 (k + r), .int .i64 (kh + 1)]] (W9.drewN q) fun e w' => e = .returned (.tuple #[]) ∧ ∃ s2 Q2, WS w' sb mb (nm' + 1) c0 (.int .i64 skip) c2 (.int .i64 left) s2 (updL L' (x : Int) (k + r, kh + 1)) Q2 ∧ SFr sb mb sv' s2 (W9.drewN q) w' ∧ Q2.Perm ((k + r, (x : Int)) :: Q')) := fun q => wset_calls (HB9.out.1.s.drewN q) (x : Int) (wf_nat (v := x) (by have := HA.out.2.1; have := HN.out.1; omega)) (k + r) (kh + 1) (by have := HR.out.2.2.2.1; have := HN.out; have := HRL.out.1; omega) (by have := HR.out.2.2.2.2; have := HN.out; have := HRL.out.1; unfold maxLen; omega)
              go_wp2_with fail
              go_quiet (fail)
              clear h92 h93 m1
              go_wp2_with fail
              refine (HSET.out _).mono ?_
              rintro e y10 ⟨rfl, s2, Q2, hs2, hf2, hp2⟩
              have HX : Hid (WB wB y10 sb mb (nm' + 1) c0 (.int .i64 skip) c2 (.int .i64 left) s2 (updL L' (x : Int) (k + r, kh + 1)) Q2 ∧ SFr sb mb sv s2 y4 y10) := ⟨(HB9.out.1.next (HB9.out.1.s.drewN nq) ((SFr.refl _ _ _ _).drewN nq)).next hs2 hf2, (HB9.out.2.drewN nq).trans hf2⟩
              have HPP : Hid (Q2.Perm ((k + r, (x : Int)) :: Q') ∧ Q2.length = Q'.length + 1) := ⟨hp2, by rw [hp2.length_eq]; rfl⟩
              clear hs2 hf2 hp2 HSET q0 q1 ql h90 h91 sl9
              go_wp2
              go_roundw
              case rel => exact ⟨i + 1, s2, updL L' (x : Int) (k + r, kh + 1), Q2, nm' + 1, by go_num, by omega, HX.out.1, HX.out.2, by rw [HA.out.2.2, List.foldl_append]; show Rel n (lookA skip v k kh _ _) _ Q2; rw [look_yes NSK.out HBT.out]; exact HR.out.2.2.1.laid HA.out.2.1 HBT.out HPP.out.1, by have := HR.out.2.2.2.1; have := HPP.out.2; omega, by have := HR.out.2.2.2.2; omega⟩
              case measure => simp [intOf]; omega
            | true =>
              by_cases hlt2 : k + r < kd
              · have g1 : decide (k + r < kd) = true := decide_eq_true hlt2
                have HBT : Hid (((R.take i).foldl (lookA skip v k kh) (S.pop v)).better x (k + r) = true) := HASK.out.trans (by rw [g1]; rfl)
                have HSET : Hid (∀ q, Calls Tryz.prog 102 #[.pointer (some ⟨sb, 0, none⟩), .int .i64 (x : Int), .agg #[.int .u64 (k + r), .int .i64 (kh + 1)]] (W9.drewN q) fun e w' => e = .returned (.tuple #[]) ∧ ∃ s2 Q2, WS w' sb mb (nm' + 1) c0 (.int .i64 skip) c2 (.int .i64 left) s2 (updL L' (x : Int) (k + r, kh + 1)) Q2 ∧ SFr sb mb sv' s2 (W9.drewN q) w' ∧ Q2.Perm ((k + r, (x : Int)) :: Q')) := fun q => wset_calls (HB9.out.1.s.drewN q) (x : Int) (wf_nat (v := x) (by have := HA.out.2.1; have := HN.out.1; omega)) (k + r) (kh + 1) (by have := HR.out.2.2.2.1; have := HN.out; have := HRL.out.1; omega) (by have := HR.out.2.2.2.2; have := HN.out; have := HRL.out.1; unfold maxLen; omega)
                go_wp2_with fail
                go_quiet (fail)
                clear h92 h93 m1
                go_wp2_with fail
                refine (HSET.out _).mono ?_
                rintro e y10 ⟨rfl, s2, Q2, hs2, hf2, hp2⟩
                have HX : Hid (WB wB y10 sb mb (nm' + 1) c0 (.int .i64 skip) c2 (.int .i64 left) s2 (updL L' (x : Int) (k + r, kh + 1)) Q2 ∧ SFr sb mb sv s2 y4 y10) := ⟨(HB9.out.1.next (HB9.out.1.s.drewN nq) ((SFr.refl _ _ _ _).drewN nq)).next hs2 hf2, (HB9.out.2.drewN nq).trans hf2⟩
                have HPP : Hid (Q2.Perm ((k + r, (x : Int)) :: Q') ∧ Q2.length = Q'.length + 1) := ⟨hp2, by rw [hp2.length_eq]; rfl⟩
                clear hs2 hf2 hp2 HSET q0 q1 ql h90 h91 sl9
                go_wp2
                go_roundw
                case rel => exact ⟨i + 1, s2, updL L' (x : Int) (k + r, kh + 1), Q2, nm' + 1, by go_num, by omega, HX.out.1, HX.out.2, by rw [HA.out.2.2, List.foldl_append]; show Rel n (lookA skip v k kh _ _) _ Q2; rw [look_yes NSK.out HBT.out]; exact HR.out.2.2.1.laid HA.out.2.1 HBT.out HPP.out.1, by have := HR.out.2.2.2.1; have := HPP.out.2; omega, by have := HR.out.2.2.2.2; omega⟩
                case measure => simp [intOf]; omega
              · have g1 : decide (k + r < kd) = false := decide_eq_false hlt2
                have HBT : Hid (((R.take i).foldl (lookA skip v k kh) (S.pop v)).better x (k + r) = false) := HASK.out.trans (by rw [g1]; rfl)
                clear hlt2
                go_wp2_with fail
                go_quiet (fail)
                have HX : Hid (WB wB (W9.drewN nq) sb mb nm' c0 (.int .i64 skip) c2 (.int .i64 left) sv' L' Q' ∧ SFr sb mb sv sv' y4 (W9.drewN nq)) := ⟨HB9.out.1.next (HB9.out.1.s.drewN nq) ((SFr.refl _ _ _ _).drewN nq), HB9.out.2.drewN nq⟩
                clear q0 q1 ql h90 h91 h92 h93 m1 sl9
                go_wp2
                go_roundw
                case rel => exact ⟨i + 1, sv', L', Q', nm', by go_num, by omega, HX.out.1, HX.out.2, by rw [HA.out.2.2, List.foldl_append]; show Rel n (lookA skip v k kh _ _) L' Q'; rw [look_no NSK.out HBT.out]; exact HR.out.2.2.1, by have := HR.out.2.2.2.1; omega, by have := HR.out.2.2.2.2; omega⟩
                case measure => simp [intOf]; omega
        · obtain rfl : i = R.length := by omega
          have HZ : Hid (∃ sv' L' Q' nm', WB wB wr sb mb nm' c0 (.int .i64 skip) c2 (.int .i64 left) sv' L' Q' ∧ Rel n (S.step zs hops v k) L' Q' ∧ Q'.length ≤ Q.length + n ∧ nm' ≤ nm + n) := ⟨sv', L', Q', nm', HR.out.1, by have h1 := HR.out.2.2.1; rw [List.take_length] at h1; rw [HSS.out]; exact h1, by have := HR.out.2.2.2; have := HRL.out.1; omega, by have := HR.out.2.2.2; have := HRL.out.1; omega⟩
          clear hHs q0 q1 ql
          go_wp2
          go_end0
          rw [HLF.out]
          exact ⟨rfl, HZ.out⟩
    · have j1 : decide (hops ≤ kh) = true := by simp; omega
      have j2 : hops ≤ kh := by omega
      have HSS : Hid (S.step zs hops v k = S.pop v) := by show _ = _; rw [HST.out, if_neg hop]
      clear hop
      go_wp2
      refine bodyPost_ret (v := .tuple #[]) (by simp [results, Tryz.results104]) rfl ?_
      rw [HLF.out, HSS.out]
      exact ⟨rfl, sv, L, Q, nm, HB3.out.1, HB.out.2.1, by omega, by omega⟩
end
end Go.Proofs.YtbkclhaonbjobaaGreat.Wt
