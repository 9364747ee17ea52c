/- numbers as bytes: wire.Put, wire.PutWords. -/
import Derived.Test.YtemdocnhdnhliabDoorWrC
namespace Go.Proofs.YtemdocnhdnhliabDoor
open Go.RowKit Go.Extern Cr

attribute [local go_sem] Oper.semAt_some

theorem hasB_new1 (w : World) (a : Nat) : HasB (w.alloc (.cells #[.int .u8 (a : Int)] 5)) (.slice (some ⟨w.heap.size, 0, none⟩) [a].length 1) [a] := by
  have h : (w.alloc (.cells #[.int .u8 (a : Int)] 5)).heap[w.heap.size]? = some (.cells #[.int .u8 (a : Int)] 5) := by show (w.heap.push _)[w.heap.size]? = _; simp
  generalize w.alloc (.cells #[.int .u8 (a : Int)] 5) = W at h
  refine ⟨_, 1, rfl, fun j x hj => ⟨w.heap.size, 0, rfl, b_lt_get h, ?_⟩⟩
  rw [Nat.zero_add]
  simp only [World.cell?, h]
  rcases j with _ | j
  · simp at hj; subst hj; simp
  · simp at hj
/-- a list with room behind it, in a block of its own. -/
structure Room (w w' : World) (g cap : Nat) (L : List Nat) : Prop where
  own : w'.ownsRow w.heap.size 5 1 (.slice (some ⟨g, 0, none⟩) L.length cap) L.length (bv L)
  below : Below w.heap.size w w'
theorem Room.base {w w' : World} {g cap : Nat} {L : List Nat} (h : Room w w' g cap L) : w.heap.size ≤ g ∧ g < w'.heap.size := h.own.lt g rfl
theorem Room.has {w w' : World} {g cap : Nat} {L : List Nat} (h : Room w w' g cap L) : HasB w' (.slice (some ⟨g, 0, none⟩) L.length cap) L := hasB_own h.own
/-- bytes behind a list that has room for them. -/
theorem wpList_spare_B {w0 w : World} {ops : Array Oper} {rest : List Oper} {o : Oper} {a : Act} {Q : Exit → Act → World → Prop} (hgd : o.guard = none) (s x : Operand)
    (ho : o.op = .call { callee := .builtin .append, args := #[s, x], argTypes := #[22, 22] })
    (g cap : Nat) (L : List Nat) (hs : a.eval s = .slice (some ⟨g, 0, none⟩) L.length cap) (hown : Room w0 w g cap L)
    (lo : Option Addr) (lc : Nat) (l : List Nat) (hx : a.eval x = .slice lo l.length lc) (hl : HasB w (.slice lo l.length lc) l) (hno : lo = none → lc = 0) (hroom : L.length + l.length ≤ cap)
    (h : ∀ w', Room w0 w' g cap (L ++ l) → wpList Tryd.prog ops Q rest (a.put o.dst (.slice (some ⟨g, 0, none⟩) (L ++ l).length cap)) w') : wpList Tryd.prog ops Q (o :: rest) a w := by
  obtain ⟨i0, hi, hz0, hz1, hz2⟩ := infoB
  cases lo with
  | none =>
    have hc := hno rfl
    subst hc
    obtain rfl := hasB_nil hl
    refine wpList_append_own_none hgd s x 22 ho w0.heap.size 5 i0 1 Tryd.underlying22 hi _ L.length (bv L) hs hown.own hx ?_
    have h' := h w (by rw [List.append_nil]; exact hown)
    rw [List.append_nil] at h'
    exact h'
  | some ad =>
    refine wpList_append_own_spare _ hgd s x 22 ho w0.heap.size 5 i0 1 Tryd.underlying22 hi hz1 g L.length cap (bv L) hs hown.own ad l.length lc (bv l) hx (bv_len l) (hasB_cells' hl) (bv_one l) hroom ?_
    intro w' h1 h2
    rw [← bv_append, ← List.length_append] at h1
    have h' := h w' ⟨h1, bbelow_g hown.below h2 (fun k e => by cases e; exact hown.base.1)⟩
    rw [List.length_append] at h'
    exact h'

set_option maxRecDepth 100000 in
set_option maxHeartbeats 1000000 in
theorem roomier_calls (lo : Option Addr) (lc : Nat) (l : List Nat) (m : Nat) (w : World) (hl : HasB w (.slice lo l.length lc) l) (hm : l.length + m ≤ 281474976710656) (hc : lo = none → lc = 0) :
    Calls Tryd.prog 24 #[.slice lo l.length lc, .int .i64 (m : Int)] w fun e w' => ∃ g, e = .returned (.slice (some ⟨g, 0, none⟩) l.length (l.length + m)) ∧ Room w w' g (l.length + m) l := by
  obtain ⟨i0, hi, hz0, hz1, hz2⟩ := infoB
  have HL : Hid (HasB w (.slice lo l.length lc) l) := hl
  have HC : Hid (lo = none → lc = 0) := hc
  have hwr : IntKind.i64.wrap ((l.length : Int) + (m : Int)) = (l.length : Int) + (m : Int) := by rw [IntKind.wrap_i64] <;> omega
  clear hl hc
  go_enter Tryd.func24, Tryd.ntmps24
  go_wp2_with (first
    | (refine wpList_make_own _ rfl _ _ 22 rfl w.heap.size 5 i0 (.int .u8 0) 1 Tryd.underlying22 hi hz0 hz1 .i64 .i64 ((l.length : Int) + (m : Int)) (l.length + m) rfl rfl rfl ?hby ?h63 ?hbase ?_; (case hby => rw [hz2]; omega); (case h63 => unfold maxLen; omega); (case hbase => exact Nat.le_refl _); intro w2 hown2 hgrow2; have H2 : Hid (Room w w2 w.heap.size (l.length + m) []) := ⟨hown2, hgrow2.os, hgrow2.tape, hgrow2.output, hgrow2.size, fun k hk => hgrow2.block k hk (by simp)⟩; clear hown2 hgrow2)
    | (at_builtin; refine wpList_spare_B rfl _ _ rfl w.heap.size (l.length + m) [] rfl H2.out lo lc l rfl (HL.out.keep H2.out.below) HC.out (by simp only [List.length_nil]; omega) ?_; intro w3 h3; have H3 : Hid (Room w w3 w.heap.size (l.length + m) l) := h3; clear h3))
  go_ret
  exact ⟨_, rfl, H3.out⟩

set_option maxRecDepth 100000 in
set_option maxHeartbeats 1000000 in
theorem behind_calls (w0 : World) (g cap : Nat) (L : List Nat) (v n : Nat) (hv : v < 18446744073709551616) (w : World) (h : Room w0 w g cap L) (hn : L.length + n ≤ cap) (hnm : n ≤ 4611686018427387904) :
    Calls Tryd.prog 23 #[.slice (some ⟨g, 0, none⟩) L.length cap, .int .u64 (v : Int), .int .i64 (n : Int)] w fun e w' => e = .returned (.slice (some ⟨g, 0, none⟩) (L.length + n) cap) ∧ Room w0 w' g cap (L ++ leN v n) := by
  have H0 : Hid (Room w0 w g cap L) := h
  clear h
  go_enter Tryd.func23, Tryd.ntmps23
  go_wp2_with fail
  go_loopw [0, 1, 8] (fun ov vv nv wr => ∃ k : Nat, k ≤ n ∧ nv = .int .i64 k ∧ vv = .int .u64 ((v / 256 ^ k : Nat) : Int) ∧ ov = .slice (some ⟨g, 0, none⟩) (L.length + k) cap ∧ Room w0 wr g cap (L ++ leN v k)) (fun _ _ nv _ => n - (intOf nv).toNat)
  case atStart => exact ⟨0, Nat.zero_le _, rfl, by rw [Nat.pow_zero, Nat.div_one], rfl, by rw [show L ++ leN v 0 = L from List.append_nil L]; exact H0.out⟩
  case round =>
    obtain ⟨k, hk, rfl, rfl, rfl, hR⟩ := hrel
    have HR : Hid (Room w0 wr g cap (L ++ leN v k)) := hR
    clear hR
    by_cases hlt : k < n
    · have hx : v / 256 ^ k < 18446744073709551616 := Nat.lt_of_le_of_lt (Nat.div_le_self _ _) hv
      have HN : Hid (leN v (k + 1) = leN v k ++ [v / 256 ^ k % 256]) := leN_snoc k v
      have HD : Hid (v / 256 ^ (k + 1) = v / 256 ^ k / 256) := (by rw [Nat.pow_succ, Nat.div_div_eq_div_mul] : v / 256 ^ (k + 1) = v / 256 ^ k / 256)
      have HLen : Hid ((L ++ leN v k).length = L.length + k) := (by rw [List.length_append, leN_len] : (L ++ leN v k).length = L.length + k)
      generalize v / 256 ^ k = x at *
      have HB : Hid (HasB (wr.alloc (.cells #[.int .u8 ((x : Int) % 256)] 5)) (.slice (some ⟨wr.heap.size, 0, none⟩) [x % 256].length 1) [x % 256]) := by
        have hh := hasB_new1 wr (x % 256)
        rw [show ((x % 256 : Nat) : Int) = (x : Int) % 256 by omega] at hh
        exact hh
      have i1 : (k : Int) < (n : Int) := by omega
      go_wp2_with (at_builtin; refine wpList_spare_B (w0 := w0) rfl _ _ rfl g cap (L ++ leN v k) (by rw [HLen.out]; rfl) ⟨bown_alloc HR.out.own _, HR.out.below.alloc HR.out.below.size _⟩ (some ⟨wr.heap.size, 0, none⟩) 1 [x % 256] rfl HB.out (fun e => by cases e) (by rw [HLen.out]; show L.length + k + 1 ≤ cap; omega) ?_; intro w3 h3; have H3 : Hid (Room w0 w3 g cap (L ++ leN v (k + 1))) := (by rw [HN.out, ← List.append_assoc]; exact h3); clear h3; rw [show (L ++ leN v k ++ [x % 256]).length = L.length + (k + 1) by rw [List.length_append, HLen.out]; rfl])
      exact ⟨⟨k + 1, by omega, by rw [show (k : Int) + 1 = ((k + 1 : Nat) : Int) by omega], by rw [HD.out, show (x : Int) / 256 = ((x / 256 : Nat) : Int) by omega], rfl, H3.out⟩, by simp only [intOf]; omega⟩
    · obtain rfl : k = n := by omega
      have i1 : ¬ ((k : Int) < (k : Int)) := by omega
      go_wp2_with fail
      go_ret
      exact ⟨rfl, HR.out⟩
/-- what Put answers. -/
def PutIs (w : World) (l : List Nat) (v : Nat) (n : Int) (e : Ending) (w' : World) : Prop :=
  (1 ≤ n ∧ n ≤ 8 ∧ v < 256 ^ n.toNat ∧ ∃ g, e = .returned (.tuple #[.slice (some ⟨g, 0, none⟩) (l.length + n.toNat) (l.length + n.toNat), .nilIface]) ∧ Room w w' g (l.length + n.toNat) (l ++ leN v n.toNat)) ∨
  ((n < 1 ∨ 8 < n) ∧ e = .returned (.tuple #[.slice none 0 0, .iface 49 (.int .i64 1)]) ∧ w' = w) ∨
  (1 ≤ n ∧ n ≤ 8 ∧ 256 ^ n.toNat ≤ v ∧ e = .returned (.tuple #[.slice none 0 0, .iface 49 (.int .i64 9)]) ∧ w' = w)
set_option maxRecDepth 100000 in
set_option maxHeartbeats 1000000 in
theorem put_1 (lo : Option Addr) (lc : Nat) (l : List Nat) (v : Nat) (hv : v < 18446744073709551616) (w : World) (hl : HasB w (.slice lo l.length lc) l) (hm : l.length ≤ 140737488355328) (hc : lo = none → lc = 0) :
    Calls Tryd.prog 12 #[.slice lo l.length lc, .int .u64 (v : Int), .int .i64 1] w fun e w' => PutIs w l v 1 e w' := by
  have hW := isWidth_yes 1 (by omega) (by omega) w
  have hR := roomier_calls lo lc l 1 w hl (by omega) hc
  clear hl hc
  by_cases hq : v < 256
  · have i1 : (v : Int) / 256 = 0 := by omega
    have HQ : Hid (v < 256) := hq
    go_enter Tryd.func12, Tryd.ntmps12
    go_wp2_with (first
      | (go_at_call 22; refine hW.mono ?_; rintro e w1 ⟨rfl, rfl⟩)
      | (go_at_call 24; refine hR.mono ?_; rintro e w2 ⟨g, rfl, hr⟩; have H2 : Hid (Room w1 w2 g (l.length + 1) l) := hr; clear hr))
    refine (behind_calls w1 g (l.length + 1) l v 1 hv w2 H2.out (Nat.le_refl _) (by omega)).mono ?_
    rintro e w3 ⟨rfl, hr⟩
    have H3 : Hid (Room w1 w3 g (l.length + 1) (l ++ leN v 1)) := hr
    clear hr
    go_wp2_with fail
    go_ret2
    exact Or.inl ⟨by omega, by omega, by show v < 256 ^ 1; exact HQ.out, g, rfl, H3.out⟩
  · have i1 : ¬ ((v : Int) / 256 = 0) := by omega
    have HQ : Hid (256 ≤ v) := (by omega : 256 ≤ v)
    go_enter Tryd.func12, Tryd.ntmps12
    go_wp2_with (go_at_call 22; refine hW.mono ?_; rintro e w1 ⟨rfl, rfl⟩)
    go_ret2
    exact Or.inr (Or.inr ⟨by omega, by omega, by show 256 ^ 1 ≤ v; exact HQ.out, rfl, rfl⟩)
set_option maxRecDepth 100000 in
set_option maxHeartbeats 1000000 in
theorem put_2 (lo : Option Addr) (lc : Nat) (l : List Nat) (v : Nat) (hv : v < 18446744073709551616) (w : World) (hl : HasB w (.slice lo l.length lc) l) (hm : l.length ≤ 140737488355328) (hc : lo = none → lc = 0) :
    Calls Tryd.prog 12 #[.slice lo l.length lc, .int .u64 (v : Int), .int .i64 2] w fun e w' => PutIs w l v 2 e w' := by
  have hW := isWidth_yes 2 (by omega) (by omega) w
  have hR := roomier_calls lo lc l 2 w hl (by omega) hc
  clear hl hc
  by_cases hq : v < 65536
  · have i1 : (v : Int) / 65536 = 0 := by omega
    have HQ : Hid (v < 65536) := hq
    go_enter Tryd.func12, Tryd.ntmps12
    go_wp2_with (first
      | (go_at_call 22; refine hW.mono ?_; rintro e w1 ⟨rfl, rfl⟩)
      | (go_at_call 24; refine hR.mono ?_; rintro e w2 ⟨g, rfl, hr⟩; have H2 : Hid (Room w1 w2 g (l.length + 2) l) := hr; clear hr))
    refine (behind_calls w1 g (l.length + 2) l v 2 hv w2 H2.out (Nat.le_refl _) (by omega)).mono ?_
    rintro e w3 ⟨rfl, hr⟩
    have H3 : Hid (Room w1 w3 g (l.length + 2) (l ++ leN v 2)) := hr
    clear hr
    go_wp2_with fail
    go_ret2
    exact Or.inl ⟨by omega, by omega, by show v < 256 ^ 2; exact HQ.out, g, rfl, H3.out⟩
  · have i1 : ¬ ((v : Int) / 65536 = 0) := by omega
    have HQ : Hid (65536 ≤ v) := (by omega : 65536 ≤ v)
    go_enter Tryd.func12, Tryd.ntmps12
    go_wp2_with (go_at_call 22; refine hW.mono ?_; rintro e w1 ⟨rfl, rfl⟩)
    go_ret2
    exact Or.inr (Or.inr ⟨by omega, by omega, by show 256 ^ 2 ≤ v; exact HQ.out, rfl, rfl⟩)
set_option maxRecDepth 100000 in
set_option maxHeartbeats 1000000 in
theorem put_3 (lo : Option Addr) (lc : Nat) (l : List Nat) (v : Nat) (hv : v < 18446744073709551616) (w : World) (hl : HasB w (.slice lo l.length lc) l) (hm : l.length ≤ 140737488355328) (hc : lo = none → lc = 0) :
    Calls Tryd.prog 12 #[.slice lo l.length lc, .int .u64 (v : Int), .int .i64 3] w fun e w' => PutIs w l v 3 e w' := by
  have hW := isWidth_yes 3 (by omega) (by omega) w
  have hR := roomier_calls lo lc l 3 w hl (by omega) hc
  clear hl hc
  by_cases hq : v < 16777216
  · have i1 : (v : Int) / 16777216 = 0 := by omega
    have HQ : Hid (v < 16777216) := hq
    go_enter Tryd.func12, Tryd.ntmps12
    go_wp2_with (first
      | (go_at_call 22; refine hW.mono ?_; rintro e w1 ⟨rfl, rfl⟩)
      | (go_at_call 24; refine hR.mono ?_; rintro e w2 ⟨g, rfl, hr⟩; have H2 : Hid (Room w1 w2 g (l.length + 3) l) := hr; clear hr))
    refine (behind_calls w1 g (l.length + 3) l v 3 hv w2 H2.out (Nat.le_refl _) (by omega)).mono ?_
    rintro e w3 ⟨rfl, hr⟩
    have H3 : Hid (Room w1 w3 g (l.length + 3) (l ++ leN v 3)) := hr
    clear hr
    go_wp2_with fail
    go_ret2
    exact Or.inl ⟨by omega, by omega, by show v < 256 ^ 3; exact HQ.out, g, rfl, H3.out⟩
  · have i1 : ¬ ((v : Int) / 16777216 = 0) := by omega
    have HQ : Hid (16777216 ≤ v) := (by omega : 16777216 ≤ v)
    go_enter Tryd.func12, Tryd.ntmps12
    go_wp2_with (go_at_call 22; refine hW.mono ?_; rintro e w1 ⟨rfl, rfl⟩)
    go_ret2
    exact Or.inr (Or.inr ⟨by omega, by omega, by show 256 ^ 3 ≤ v; exact HQ.out, rfl, rfl⟩)
set_option maxRecDepth 100000 in
set_option maxHeartbeats 1000000 in
theorem put_4 (lo : Option Addr) (lc : Nat) (l : List Nat) (v : Nat) (hv : v < 18446744073709551616) (w : World) (hl : HasB w (.slice lo l.length lc) l) (hm : l.length ≤ 140737488355328) (hc : lo = none → lc = 0) :
    Calls Tryd.prog 12 #[.slice lo l.length lc, .int .u64 (v : Int), .int .i64 4] w fun e w' => PutIs w l v 4 e w' := by
  have hW := isWidth_yes 4 (by omega) (by omega) w
  have hR := roomier_calls lo lc l 4 w hl (by omega) hc
  clear hl hc
  by_cases hq : v < 4294967296
  · have i1 : (v : Int) / 4294967296 = 0 := by omega
    have HQ : Hid (v < 4294967296) := hq
    go_enter Tryd.func12, Tryd.ntmps12
    go_wp2_with (first
      | (go_at_call 22; refine hW.mono ?_; rintro e w1 ⟨rfl, rfl⟩)
      | (go_at_call 24; refine hR.mono ?_; rintro e w2 ⟨g, rfl, hr⟩; have H2 : Hid (Room w1 w2 g (l.length + 4) l) := hr; clear hr))
    refine (behind_calls w1 g (l.length + 4) l v 4 hv w2 H2.out (Nat.le_refl _) (by omega)).mono ?_
    rintro e w3 ⟨rfl, hr⟩
    have H3 : Hid (Room w1 w3 g (l.length + 4) (l ++ leN v 4)) := hr
    clear hr
    go_wp2_with fail
    go_ret2
    exact Or.inl ⟨by omega, by omega, by show v < 256 ^ 4; exact HQ.out, g, rfl, H3.out⟩
  · have i1 : ¬ ((v : Int) / 4294967296 = 0) := by omega
    have HQ : Hid (4294967296 ≤ v) := (by omega : 4294967296 ≤ v)
    go_enter Tryd.func12, Tryd.ntmps12
    go_wp2_with (go_at_call 22; refine hW.mono ?_; rintro e w1 ⟨rfl, rfl⟩)
    go_ret2
    exact Or.inr (Or.inr ⟨by omega, by omega, by show 256 ^ 4 ≤ v; exact HQ.out, rfl, rfl⟩)
set_option maxRecDepth 100000 in
set_option maxHeartbeats 1000000 in
theorem put_5 (lo : Option Addr) (lc : Nat) (l : List Nat) (v : Nat) (hv : v < 18446744073709551616) (w : World) (hl : HasB w (.slice lo l.length lc) l) (hm : l.length ≤ 140737488355328) (hc : lo = none → lc = 0) :
    Calls Tryd.prog 12 #[.slice lo l.length lc, .int .u64 (v : Int), .int .i64 5] w fun e w' => PutIs w l v 5 e w' := by
  have hW := isWidth_yes 5 (by omega) (by omega) w
  have hR := roomier_calls lo lc l 5 w hl (by omega) hc
  clear hl hc
  by_cases hq : v < 1099511627776
  · have i1 : (v : Int) / 1099511627776 = 0 := by omega
    have HQ : Hid (v < 1099511627776) := hq
    go_enter Tryd.func12, Tryd.ntmps12
    go_wp2_with (first
      | (go_at_call 22; refine hW.mono ?_; rintro e w1 ⟨rfl, rfl⟩)
      | (go_at_call 24; refine hR.mono ?_; rintro e w2 ⟨g, rfl, hr⟩; have H2 : Hid (Room w1 w2 g (l.length + 5) l) := hr; clear hr))
    refine (behind_calls w1 g (l.length + 5) l v 5 hv w2 H2.out (Nat.le_refl _) (by omega)).mono ?_
    rintro e w3 ⟨rfl, hr⟩
    have H3 : Hid (Room w1 w3 g (l.length + 5) (l ++ leN v 5)) := hr
    clear hr
    go_wp2_with fail
    go_ret2
    exact Or.inl ⟨by omega, by omega, by show v < 256 ^ 5; exact HQ.out, g, rfl, H3.out⟩
  · have i1 : ¬ ((v : Int) / 1099511627776 = 0) := by omega
    have HQ : Hid (1099511627776 ≤ v) := (by omega : 1099511627776 ≤ v)
    go_enter Tryd.func12, Tryd.ntmps12
    go_wp2_with (go_at_call 22; refine hW.mono ?_; rintro e w1 ⟨rfl, rfl⟩)
    go_ret2
    exact Or.inr (Or.inr ⟨by omega, by omega, by show 256 ^ 5 ≤ v; exact HQ.out, rfl, rfl⟩)
set_option maxRecDepth 100000 in
set_option maxHeartbeats 1000000 in
theorem put_6 (lo : Option Addr) (lc : Nat) (l : List Nat) (v : Nat) (hv : v < 18446744073709551616) (w : World) (hl : HasB w (.slice lo l.length lc) l) (hm : l.length ≤ 140737488355328) (hc : lo = none → lc = 0) :
    Calls Tryd.prog 12 #[.slice lo l.length lc, .int .u64 (v : Int), .int .i64 6] w fun e w' => PutIs w l v 6 e w' := by
  have hW := isWidth_yes 6 (by omega) (by omega) w
  have hR := roomier_calls lo lc l 6 w hl (by omega) hc
  clear hl hc
  by_cases hq : v < 281474976710656
  · have i1 : (v : Int) / 281474976710656 = 0 := by omega
    have HQ : Hid (v < 281474976710656) := hq
    go_enter Tryd.func12, Tryd.ntmps12
    go_wp2_with (first
      | (go_at_call 22; refine hW.mono ?_; rintro e w1 ⟨rfl, rfl⟩)
      | (go_at_call 24; refine hR.mono ?_; rintro e w2 ⟨g, rfl, hr⟩; have H2 : Hid (Room w1 w2 g (l.length + 6) l) := hr; clear hr))
    refine (behind_calls w1 g (l.length + 6) l v 6 hv w2 H2.out (Nat.le_refl _) (by omega)).mono ?_
    rintro e w3 ⟨rfl, hr⟩
    have H3 : Hid (Room w1 w3 g (l.length + 6) (l ++ leN v 6)) := hr
    clear hr
    go_wp2_with fail
    go_ret2
    exact Or.inl ⟨by omega, by omega, by show v < 256 ^ 6; exact HQ.out, g, rfl, H3.out⟩
  · have i1 : ¬ ((v : Int) / 281474976710656 = 0) := by omega
    have HQ : Hid (281474976710656 ≤ v) := (by omega : 281474976710656 ≤ v)
    go_enter Tryd.func12, Tryd.ntmps12
    go_wp2_with (go_at_call 22; refine hW.mono ?_; rintro e w1 ⟨rfl, rfl⟩)
    go_ret2
    exact Or.inr (Or.inr ⟨by omega, by omega, by show 256 ^ 6 ≤ v; exact HQ.out, rfl, rfl⟩)
set_option maxRecDepth 100000 in
set_option maxHeartbeats 1000000 in
theorem put_7 (lo : Option Addr) (lc : Nat) (l : List Nat) (v : Nat) (hv : v < 18446744073709551616) (w : World) (hl : HasB w (.slice lo l.length lc) l) (hm : l.length ≤ 140737488355328) (hc : lo = none → lc = 0) :
    Calls Tryd.prog 12 #[.slice lo l.length lc, .int .u64 (v : Int), .int .i64 7] w fun e w' => PutIs w l v 7 e w' := by
  have hW := isWidth_yes 7 (by omega) (by omega) w
  have hR := roomier_calls lo lc l 7 w hl (by omega) hc
  clear hl hc
  by_cases hq : v < 72057594037927936
  · have i1 : (v : Int) / 72057594037927936 = 0 := by omega
    have HQ : Hid (v < 72057594037927936) := hq
    go_enter Tryd.func12, Tryd.ntmps12
    go_wp2_with (first
      | (go_at_call 22; refine hW.mono ?_; rintro e w1 ⟨rfl, rfl⟩)
      | (go_at_call 24; refine hR.mono ?_; rintro e w2 ⟨g, rfl, hr⟩; have H2 : Hid (Room w1 w2 g (l.length + 7) l) := hr; clear hr))
    refine (behind_calls w1 g (l.length + 7) l v 7 hv w2 H2.out (Nat.le_refl _) (by omega)).mono ?_
    rintro e w3 ⟨rfl, hr⟩
    have H3 : Hid (Room w1 w3 g (l.length + 7) (l ++ leN v 7)) := hr
    clear hr
    go_wp2_with fail
    go_ret2
    exact Or.inl ⟨by omega, by omega, by show v < 256 ^ 7; exact HQ.out, g, rfl, H3.out⟩
  · have i1 : ¬ ((v : Int) / 72057594037927936 = 0) := by omega
    have HQ : Hid (72057594037927936 ≤ v) := (by omega : 72057594037927936 ≤ v)
    go_enter Tryd.func12, Tryd.ntmps12
    go_wp2_with (go_at_call 22; refine hW.mono ?_; rintro e w1 ⟨rfl, rfl⟩)
    go_ret2
    exact Or.inr (Or.inr ⟨by omega, by omega, by show 256 ^ 7 ≤ v; exact HQ.out, rfl, rfl⟩)
set_option maxRecDepth 100000 in
set_option maxHeartbeats 1000000 in
theorem put_8 (lo : Option Addr) (lc : Nat) (l : List Nat) (v : Nat) (hv : v < 18446744073709551616) (w : World) (hl : HasB w (.slice lo l.length lc) l) (hm : l.length ≤ 140737488355328) (hc : lo = none → lc = 0) :
    Calls Tryd.prog 12 #[.slice lo l.length lc, .int .u64 (v : Int), .int .i64 8] w fun e w' => PutIs w l v 8 e w' := by
  have hW := isWidth_yes 8 (by omega) (by omega) w
  have hR := roomier_calls lo lc l 8 w hl (by omega) hc
  clear hl hc
  · have i1 : (v : Int) / 18446744073709551616 = 0 := by omega
    have HQ : Hid (v < 18446744073709551616) := hv
    go_enter Tryd.func12, Tryd.ntmps12
    go_wp2_with (first
      | (go_at_call 22; refine hW.mono ?_; rintro e w1 ⟨rfl, rfl⟩)
      | (go_at_call 24; refine hR.mono ?_; rintro e w2 ⟨g, rfl, hr⟩; have H2 : Hid (Room w1 w2 g (l.length + 8) l) := hr; clear hr))
    refine (behind_calls w1 g (l.length + 8) l v 8 hv w2 H2.out (Nat.le_refl _) (by omega)).mono ?_
    rintro e w3 ⟨rfl, hr⟩
    have H3 : Hid (Room w1 w3 g (l.length + 8) (l ++ leN v 8)) := hr
    clear hr
    go_wp2_with fail
    go_ret2
    exact Or.inl ⟨by omega, by omega, by show v < 256 ^ 8; exact HQ.out, g, rfl, H3.out⟩
set_option maxRecDepth 100000 in
set_option maxHeartbeats 1000000 in
theorem put_calls (lo : Option Addr) (lc : Nat) (l : List Nat) (v : Nat) (hv : v < 18446744073709551616) (n : Int) (w : World) (hl : HasB w (.slice lo l.length lc) l) (hm : l.length ≤ 140737488355328) (hc : lo = none → lc = 0) :
    Calls Tryd.prog 12 #[.slice lo l.length lc, .int .u64 (v : Int), .int .i64 n] w fun e w' => PutIs w l v n e w' := by
  by_cases hn : n < 1 ∨ 8 < n
  · have hW := isWidth_no n hn w
    have HN : Hid (n < 1 ∨ 8 < n) := hn
    clear hn hl hc
    go_enter Tryd.func12, Tryd.ntmps12
    go_wp2_with (go_at_call 22; refine hW.mono ?_; rintro e w1 ⟨rfl, rfl⟩)
    go_ret2
    exact Or.inr (Or.inl ⟨HN.out, rfl, rfl⟩)
  · have h8 : n = 1 ∨ n = 2 ∨ n = 3 ∨ n = 4 ∨ n = 5 ∨ n = 6 ∨ n = 7 ∨ n = 8 := by omega
    rcases h8 with rfl | rfl | rfl | rfl | rfl | rfl | rfl | rfl
    · exact put_1 lo lc l v hv w hl hm hc
    · exact put_2 lo lc l v hv w hl hm hc
    · exact put_3 lo lc l v hv w hl hm hc
    · exact put_4 lo lc l v hv w hl hm hc
    · exact put_5 lo lc l v hv w hl hm hc
    · exact put_6 lo lc l v hv w hl hm hc
    · exact put_7 lo lc l v hv w hl hm hc
    · exact put_8 lo lc l v hv w hl hm hc
end Go.Proofs.YtemdocnhdnhliabDoor
