/- the law WireBytes, walked. -/
import Derived.Test.YtemdocnhdnhliabWrF
namespace Go.Proofs.Ytemdocnhdnhliab
open Go.RowKit Go.Extern Cr

attribute [local go_sem] Oper.semAt_some

/-- a copy, and what is known of it. -/
theorem twin18 {w wx : World} {lo : Option Addr} {lc : Nat} {l : List Nat} (h : HasB w (.slice lo l.length lc) l) (hx : Below w.heap.size w wx) (hm : l.length ≤ 140737488355328) (hc : lo = none → lc = 0) :
    Calls Try.prog 7 #[.slice lo l.length lc] wx fun e w' => ∃ mo mc, e = .returned (.slice mo l.length mc) ∧ (HasB w' (.slice mo l.length mc) l ∧ l.length ≤ mc ∧ (mo = none → mc = 0)) ∧ Below w.heap.size w w' := by
  refine (kTwin_calls lo lc l wx (h.keep hx) hm hc).mono ?_
  rintro e w' ⟨mo, mc, rfl, ho, hb⟩
  exact ⟨mo, mc, rfl, ⟨hasB_own ho, own_cap' ho⟩, hx.trans (hb.mono hx.size)⟩
theorem piece_cons {l : List Nat} {a k x : Nat} (hx : l[a]? = some x) : piece l a (k + 1) = x :: piece l (a + 1) k := by
  unfold piece
  have hlt := (List.getElem?_eq_some_iff.1 hx).1
  have e : l.drop a = x :: l.drop (a + 1) := by
    rw [List.drop_eq_getElem_cons hlt]
    congr 1
    exact (List.getElem?_eq_some_iff.1 hx).2
  rw [e]
  rfl
/-- Take where it is right. -/
theorem take_good {lo : Option Addr} {lc : Nat} {l : List Nat} {a k : Nat} {w w0 : World} (hx : Below w0.heap.size w0 w) (hl : HasB w (.slice lo l.length lc) l) (hb : Bts l) (hm : l.length ≤ 140737488355328) (hc : l.length ≤ lc) (h1 : 1 ≤ k) (h8 : k ≤ 8) (h : a + k ≤ l.length) {p : List Nat} (hp : p = piece l a k) :
    Calls Try.prog 8 #[.slice lo l.length lc, .int .i64 (a : Int), .int .i64 (k : Int)] w fun e w' => e = .returned (.tuple #[.int .u64 ((num p : Nat) : Int), .nilIface]) ∧ Below w0.heap.size w0 w' := by
  subst hp
  refine (take_calls lo lc l (a : Int) (k : Int) w hl hb hm hc (by omega)).mono ?_
  rintro e w' ⟨hb', ⟨_, _, _, _, he⟩ | ⟨h', _⟩⟩
  · exact ⟨he, hx.trans (hb'.mono hx.size)⟩
  · omega

set_option maxRecDepth 100000 in
set_option maxHeartbeats 2000000 in
theorem bytes_calls (lo : Option Addr) (lc : Nat) (l : List Nat) (at_ n : Int) (w : World) (hl : HasB w (.slice lo l.length lc) l) (hb : Bts l) (hm : l.length ≤ 140737488351232) (hcn : lo = none → lc = 0) (ha : -9223372036854775808 ≤ at_ ∧ at_ ≤ 9223372036854775807) :
    Calls Try.prog 4 #[.slice lo l.length lc, .int .i64 at_, .int .i64 n] w fun e w' => e = .returned (.bool true) ∧ Below w.heap.size w w' := by
  have HA := awake18_calls w
  have HL : Hid (HasB w (.slice lo l.length lc) l ∧ Bts l ∧ (lo = none → lc = 0)) := ⟨hl, hb, hcn⟩
  clear hb hcn
  by_cases hg : 1 ≤ n ∧ n ≤ 8 ∧ 0 ≤ at_ ∧ at_ + n ≤ (l.length : Int)
  · obtain ⟨g1, g2, g3, g4⟩ := hg
    obtain ⟨k', rfl⟩ : ∃ k : Nat, n = (k : Int) + 1 := ⟨n.toNat - 1, by omega⟩
    obtain ⟨a, rfl⟩ : ∃ a : Nat, at_ = a := ⟨at_.toNat, by omega⟩
    obtain ⟨x0, hx0⟩ : ∃ x, l[a]? = some x := ⟨l[a]'(by omega), List.getElem?_eq_getElem _⟩
    have hxb := bts_at HL.out.2.1 hx0
    obtain ⟨b, off, hlo, hbl, c0⟩ := hl.at hx0
    subst hlo
    clear hl
    have HP : Hid (piece l a (k' + 1) = x0 :: piece l (a + 1) k' ∧ piece l a 1 = [x0]) := ⟨piece_cons hx0, by rw [piece_cons hx0]; rfl⟩
    have hv : num (piece l a (k' + 1)) < 18446744073709551616 := num_le64 (piece_bts HL.out.2.1 _ _) (by rw [piece_len (by omega)]; omega)
    have hnum : num (piece l a (k' + 1)) = x0 + 256 * num (piece l (a + 1) k') := by rw [HP.out.1]; rfl
    have hnum1 : num (piece l a 1) = x0 := by rw [HP.out.2]; show x0 + 256 * 0 = x0; omega
    have HT : Hid (∀ wx, Below w.heap.size w wx → Calls Try.prog 7 #[.slice (some ⟨b, off, none⟩) l.length lc] wx fun e w' => ∃ mo mc, e = .returned (.slice mo l.length mc) ∧ (HasB w' (.slice mo l.length mc) l ∧ l.length ≤ mc ∧ (mo = none → mc = 0)) ∧ Below w.heap.size w w') := fun wx hx => twin18 HL.out.1 hx (by omega) HL.out.2.2
    have HK : Hid (∀ wx mo mc, Below w.heap.size w wx → HasB wx (.slice mo l.length mc) l → l.length ≤ mc → Calls Try.prog 8 #[.slice mo l.length mc, .int .i64 (a : Int), .int .i64 ((k' : Int) + 1)] wx fun e w' => e = .returned (.tuple #[.int .u64 ((num (piece l a (k' + 1)) : Nat) : Int), .nilIface]) ∧ Below w.heap.size w w') := fun wx mo mc hx hB hc => take_good (k := k' + 1) hx hB HL.out.2.1 (by omega) hc (by omega) (by omega) (by omega) rfl
    have HK1 : Hid (∀ wx mo mc, Below w.heap.size w wx → HasB wx (.slice mo l.length mc) l → l.length ≤ mc → Calls Try.prog 8 #[.slice mo l.length mc, .int .i64 (a : Int), .int .i64 1] wx fun e w' => e = .returned (.tuple #[.int .u64 ((num (piece l a 1) : Nat) : Int), .nilIface]) ∧ Below w.heap.size w w') := fun wx mo mc hx hB hc => take_good (k := 1) hx hB HL.out.2.1 (by omega) hc (by omega) (by omega) (by omega) rfl
    have HK2 : Hid (1 ≤ k' → ∀ wx mo mc, Below w.heap.size w wx → HasB wx (.slice mo l.length mc) l → l.length ≤ mc → Calls Try.prog 8 #[.slice mo l.length mc, .int .i64 ((a : Int) + 1), .int .i64 (k' : Int)] wx fun e w' => e = .returned (.tuple #[.int .u64 ((num (piece l (a + 1) k') : Nat) : Int), .nilIface]) ∧ Below w.heap.size w w') := fun h1 wx mo mc hx hB hc => take_good (a := a + 1) (k := k') hx hB HL.out.2.1 (by omega) hc h1 (by omega) (by omega) rfl
    have HW : Hid (k' = 3 → ∀ wx mo mc, Below w.heap.size w wx → HasB wx (.slice mo l.length mc) l → l.length ≤ mc → Calls Try.prog 12 #[.slice mo l.length mc, .int .i64 (a : Int), .int .i64 1] wx fun e w' => ∃ g sc, e = .returned (.tuple #[.slice (some ⟨g, 0, none⟩) 1 sc, .nilIface]) ∧ w'.cell? ⟨g, 0, none⟩ = some (.int .u32 ((num (piece l a (k' + 1)) : Nat) : Int)) ∧ Below w.heap.size w w') := fun h1 wx mo mc hx hB hc => by
      refine (words_calls mo mc l (a : Int) 1 wx hB HL.out.2.1 (by omega) hc (by omega) (Or.inl (by omega))).mono ?_
      rintro e w' ⟨hb', ⟨_, _, _, so, sc, he, ho⟩ | ⟨h', _⟩⟩
      · obtain ⟨g, c', hv', _, _, _, hcell⟩ := wown_at ho (by decide)
        have hc0 := hcell 0 _ (wordsOf_at (by decide))
        injection hv' with hv1 _ hv3
        subst hv1 hv3 h1
        exact ⟨g, sc, he, hc0, hx.trans (hb'.mono hx.size)⟩
      · omega
    have hv4 : k' = 3 → num (piece l a (k' + 1)) < 4294967296 := fun h1 => by
      subst h1
      exact num_4 (piece_bts HL.out.2.1 _ _) (piece_len (by omega))
    have HV4 : Hid (type_of% hv4) := hv4
    have HR0 : Hid (k' = 0 → num (piece l (a + 1) k') = 0) := fun h => by subst h; simp [piece, num]
    generalize num (piece l a (k' + 1)) = v at *
    generalize num (piece l (a + 1) k') = r at *
    rw [hnum1] at HK1
    have hvI : (v : Int) ≤ 18446744073709551615 := by omega
    have HNV : Hid (v = x0 + 256 * r) := hnum
    clear hnum1 hx0 HP hv4 hnum hv
    have i1 : (a : Int) < (l.length : Int) := by omega
    have hwa : IntKind.i64.wrap ((a : Int) + 1) = (a : Int) + 1 := by rw [IntKind.wrap_i64] <;> omega
    have hwk : IntKind.i64.wrap ((k' : Int) + 1 - 1) = (k' : Int) := by rw [IntKind.wrap_i64] <;> omega
    have hwk2 : (k' : Int) + 1 - 1 = (k' : Int) := by omega
    have hxk : (x0 : Int) + 256 * (r : Int) = (v : Int) := by have := HNV.out; omega
    have i4 : 0 ≤ (r : Int) := by omega
    have i5 : 256 * (r : Int) ≤ 18446744073709551615 := by omega
    rcases (by omega : k' = 0 ∨ (1 ≤ k' ∧ k' ≠ 3) ∨ k' = 3) with hk0 | ⟨hk1, hk3⟩ | hk3
    · subst hk0
      have hr0 : r = 0 := HR0.out rfl
      have hx1 : (x0 : Int) = (v : Int) := by omega
      go_enter Try.func4, Try.ntmps4
      go_wp2_with (go_at_call 5; refine HA.mono ?_; rintro e w1 ⟨rfl, hb1⟩; have H1 : Hid (Below w.heap.size w w1) := hb1; clear hb1)
      refine (HT.out _ H1.out).mono ?_
      rintro e w2 ⟨mo, mc, rfl, hB, hb⟩
      have H2 : Hid ((HasB w2 (.slice mo l.length mc) l ∧ l.length ≤ mc) ∧ Below w.heap.size w w2) := ⟨⟨hB.1, hB.2.1⟩, hb⟩
      clear hB hb
      go_wp2_with fail
      refine (HK.out _ _ _ H2.out.2 H2.out.1.1 H2.out.1.2).mono ?_
      rintro e w3 ⟨rfl, hb⟩
      have H3 : Hid (Below w.heap.size w w3) := hb
      clear hb
      go_wp2_with fail
      refine (HT.out _ H3.out).mono ?_
      rintro e w4 ⟨po, pc, rfl, hB, hb⟩
      have H4 : Hid ((HasB w4 (.slice po l.length pc) l ∧ l.length ≤ pc) ∧ Below w.heap.size w w4) := ⟨⟨hB.1, hB.2.1⟩, hb⟩
      clear hB hb
      go_wp2_with fail
      refine (HK1.out _ _ _ H4.out.2 H4.out.1.1 H4.out.1.2).mono ?_
      rintro e w5 ⟨rfl, hb⟩
      have H5 : Hid (Below w.heap.size w w5) := hb
      have c5 := (hb.cell (p := ⟨b, off + a, none⟩) hbl).trans c0
      clear hb
      go_wp2_with fail
      go_ret
      exact ⟨rfl, H5.out⟩
    · have i2 : (k' : Int) + 1 > 1 := by omega
      have i3 : ¬ ((k' : Int) + 1 = 4) := by omega
      go_enter Try.func4, Try.ntmps4
      go_wp2_with (go_at_call 5; refine HA.mono ?_; rintro e w1 ⟨rfl, hb1⟩; have H1 : Hid (Below w.heap.size w w1) := hb1; clear hb1)
      refine (HT.out _ H1.out).mono ?_
      rintro e w2 ⟨mo, mc, rfl, hB, hb⟩
      have H2 : Hid ((HasB w2 (.slice mo l.length mc) l ∧ l.length ≤ mc) ∧ Below w.heap.size w w2) := ⟨⟨hB.1, hB.2.1⟩, hb⟩
      clear hB hb
      go_wp2_with fail
      refine (HK.out _ _ _ H2.out.2 H2.out.1.1 H2.out.1.2).mono ?_
      rintro e w3 ⟨rfl, hb⟩
      have H3 : Hid (Below w.heap.size w w3) := hb
      clear hb
      go_wp2_with fail
      refine (HT.out _ H3.out).mono ?_
      rintro e w4 ⟨po, pc, rfl, hB, hb⟩
      have H4 : Hid ((HasB w4 (.slice po l.length pc) l ∧ l.length ≤ pc) ∧ Below w.heap.size w w4) := ⟨⟨hB.1, hB.2.1⟩, hb⟩
      clear hB hb
      go_wp2_with fail
      refine (HK1.out _ _ _ H4.out.2 H4.out.1.1 H4.out.1.2).mono ?_
      rintro e w5 ⟨rfl, hb⟩
      have H5 : Hid (Below w.heap.size w w5) := hb
      have c5 := (hb.cell (p := ⟨b, off + a, none⟩) hbl).trans c0
      clear hb
      go_wp2_with fail
      refine (HT.out _ H5.out).mono ?_
      rintro e w6 ⟨qo, qc, rfl, hB, hb⟩
      have H6 : Hid ((HasB w6 (.slice qo l.length qc) l ∧ l.length ≤ qc) ∧ Below w.heap.size w w6) := ⟨⟨hB.1, hB.2.1⟩, hb⟩
      clear hB hb
      go_wp2_with fail
      refine (HK2.out hk1 _ _ _ H6.out.2 H6.out.1.1 H6.out.1.2).mono ?_
      rintro e w7 ⟨rfl, hb⟩
      have H7 : Hid (Below w.heap.size w w7) := hb
      clear hb
      go_wp2_with fail
      go_ret
      exact ⟨rfl, H7.out⟩
    · subst hk3
      have hv4' : (v : Int) ≤ 4294967295 := by have := HV4.out rfl; omega
      clear hwk hwk2
      go_enter Try.func4, Try.ntmps4
      go_wp2_with (go_at_call 5; refine HA.mono ?_; rintro e w1 ⟨rfl, hb1⟩; have H1 : Hid (Below w.heap.size w w1) := hb1; clear hb1)
      refine (HT.out _ H1.out).mono ?_
      rintro e w2 ⟨mo, mc, rfl, hB, hb⟩
      have H2 : Hid ((HasB w2 (.slice mo l.length mc) l ∧ l.length ≤ mc) ∧ Below w.heap.size w w2) := ⟨⟨hB.1, hB.2.1⟩, hb⟩
      clear hB hb
      go_wp2_with fail
      refine (HK.out _ _ _ H2.out.2 H2.out.1.1 H2.out.1.2).mono ?_
      rintro e w3 ⟨rfl, hb⟩
      have H3 : Hid (Below w.heap.size w w3) := hb
      clear hb
      go_wp2_with fail
      refine (HT.out _ H3.out).mono ?_
      rintro e w4 ⟨po, pc, rfl, hB, hb⟩
      have H4 : Hid ((HasB w4 (.slice po l.length pc) l ∧ l.length ≤ pc) ∧ Below w.heap.size w w4) := ⟨⟨hB.1, hB.2.1⟩, hb⟩
      clear hB hb
      go_wp2_with fail
      refine (HK1.out _ _ _ H4.out.2 H4.out.1.1 H4.out.1.2).mono ?_
      rintro e w5 ⟨rfl, hb⟩
      have H5 : Hid (Below w.heap.size w w5) := hb
      have c5 := (hb.cell (p := ⟨b, off + a, none⟩) hbl).trans c0
      clear hb
      go_wp2_with fail
      refine (HT.out _ H5.out).mono ?_
      rintro e w6 ⟨qo, qc, rfl, hB, hb⟩
      have H6 : Hid ((HasB w6 (.slice qo l.length qc) l ∧ l.length ≤ qc) ∧ Below w.heap.size w w6) := ⟨⟨hB.1, hB.2.1⟩, hb⟩
      clear hB hb
      go_wp2_with fail
      refine (HK2.out (by omega) _ _ _ H6.out.2 H6.out.1.1 H6.out.1.2).mono ?_
      rintro e w7 ⟨rfl, hb⟩
      have H7 : Hid (Below w.heap.size w w7) := hb
      clear hb
      go_wp2_with fail
      refine (HT.out _ H7.out).mono ?_
      rintro e w8 ⟨so, sc, rfl, hB, hb⟩
      have H8 : Hid ((HasB w8 (.slice so l.length sc) l ∧ l.length ≤ sc) ∧ Below w.heap.size w w8) := ⟨⟨hB.1, hB.2.1⟩, hb⟩
      clear hB hb
      go_wp2_with fail
      refine (HW.out (by trivial) _ _ _ H8.out.2 H8.out.1.1 H8.out.1.2).mono ?_
      rintro e w9 ⟨g, gc, rfl, c9, hb⟩
      have H9 : Hid (Below w.heap.size w w9) := hb
      clear hb
      go_wp2_with fail
      go_ret
      exact ⟨rfl, H9.out⟩
  · have HG : Hid (n < 1 ∨ 8 < n ∨ at_ < 0 ∨ (l.length : Int) < at_ + n) := (by omega : n < 1 ∨ 8 < n ∨ at_ < 0 ∨ (l.length : Int) < at_ + n)
    clear hg hl
    go_enter Try.func4, Try.ntmps4
    go_wp2_with (go_at_call 5; refine HA.mono ?_; rintro e w1 ⟨rfl, hb1⟩; have H1 : Hid (Below w.heap.size w w1) := hb1; clear hb1)
    refine (twin18 HL.out.1 H1.out (by omega) HL.out.2.2).mono ?_
    rintro e w2 ⟨mo, mc, rfl, hB, hb⟩
    have H2 : Hid ((HasB w2 (.slice mo l.length mc) l ∧ l.length ≤ mc) ∧ Below w.heap.size w w2) := ⟨⟨hB.1, hB.2.1⟩, hb⟩
    clear hB hb
    go_wp2_with fail
    refine (take_calls mo mc l at_ n w2 H2.out.1.1 HL.out.2.1 (by omega) H2.out.1.2 ha).mono ?_
    rintro e w3 ⟨hb, ⟨_, _, _, _, he⟩ | ⟨_, t, x, rfl⟩⟩
    · have := HG.out
      omega
    · have H3 : Hid (Below w.heap.size w w3) := H2.out.2.trans (hb.mono H2.out.2.size)
      clear hb
      go_wp2_with fail
      go_ret
      exact ⟨rfl, H3.out⟩
end Go.Proofs.Ytemdocnhdnhliab
