/- numbers as bytes: wire.Words. -/
import Derived.Test.YtemdocnhdnhliabWrB
import Derived.Test.YtemdocnhdnhliabWrW
namespace Go.Proofs.Ytemdocnhdnhliab
open Go.RowKit Go.Extern Cr

attribute [local go_sem] Oper.semAt_some

/-- the words that lie from a place on. -/
def wordsOf (l : List Nat) (a c : Nat) : List Nat := (List.range c).map fun i => num (piece l (a + 4 * i) 4)
theorem wordsOf_len (l : List Nat) (a c : Nat) : (wordsOf l a c).length = c := by simp [wordsOf]
theorem wordsOf_at {l : List Nat} {a c i : Nat} (h : i < c) : (wordsOf l a c)[i]? = some (num (piece l (a + 4 * i) 4)) := by
  unfold wordsOf
  rw [List.getElem?_map, List.getElem?_range h]
  rfl
theorem num_4 {l : List Nat} (h : Bts l) (hl : l.length = 4) : num l < 4294967296 := by
  have h1 := num_lt h
  rw [hl] at h1
  exact h1
theorem set_next {L M : List Nat} {k x : Nat} (hk : k < M.length) (hx : L[k]? = some x) (h : M.take k = L.take k) : (M.set k x).take (k + 1) = L.take (k + 1) := by
  rw [List.take_add_one, List.take_add_one, List.take_set_of_le (Nat.le_refl _), h, hx, List.getElem?_set_self hk]
/-- what Words answers. -/
def WordsIs (w : World) (l : List Nat) (at_ c : Int) (e : Ending) (w' : World) : Prop := Below w.heap.size w w' ∧
  ((0 ≤ at_ ∧ 0 ≤ c ∧ (4 * c ≤ (l.length : Int) - at_ ∨ c = 0) ∧ ∃ mo mc, e = .returned (.tuple #[.slice mo c.toNat mc, .nilIface]) ∧ w'.ownsRow w.heap.size 40 1 (.slice mo c.toNat mc) c.toNat (wv (wordsOf l at_.toNat c.toNat))) ∨
   ((at_ < 0 ∨ c < 0 ∨ ((l.length : Int) - at_ < 4 * c ∧ 0 < c)) ∧ ∃ t x, e = .returned (.tuple #[.slice none 0 0, .iface t x])))
set_option maxRecDepth 100000 in
set_option maxHeartbeats 1000000 in
theorem words_calls (lo : Option Addr) (lc : Nat) (l : List Nat) (at_ c : Int) (w : World) (hl : HasB w (.slice lo l.length lc) l) (hb : Bts l) (hm : l.length ≤ 281474976710656) (hc : l.length ≤ lc) (ha : -9223372036854775808 ≤ at_ ∧ at_ ≤ 9223372036854775807) (hcm : c * 4 ≤ 140737488355328 ∨ (l.length : Int) - at_ < 4 * c) :
    Calls Try.prog 12 #[.slice lo l.length lc, .int .i64 at_, .int .i64 c] w fun e w' => WordsIs w l at_ c e w' := by
  by_cases h0 : at_ < 0 ∨ c < 0
  · have HN : Hid (at_ < 0 ∨ c < 0) := h0
    by_cases h1 : at_ < 0
    · clear h0
      go_enter Try.func12, Try.ntmps12
      go_wp2_with fail
      go_ret2
      exact ⟨Below.refl _ _, Or.inr ⟨Or.inl h1, _, _, rfl⟩⟩
    · have h2 : c < 0 := by omega
      clear h0
      go_enter Try.func12, Try.ntmps12
      go_wp2_with fail
      go_ret2
      exact ⟨Below.refl _ _, Or.inr ⟨Or.inr (Or.inl h2), _, _, rfl⟩⟩
  · have j1 : 0 ≤ at_ := by omega
    have j2 : 0 ≤ c := by omega
    have hS := standing_calls lo lc l.length at_ w (by omega) (by omega) (by omega)
    clear h0
    by_cases h2 : 4 * c ≤ (l.length : Int) - at_ ∨ c = 0
    · obtain ⟨n, rfl⟩ : ∃ n : Nat, c = n := ⟨c.toNat, by omega⟩
      obtain ⟨a, rfl⟩ : ∃ a : Nat, at_ = a := ⟨at_.toNat, by omega⟩
      have hn4 : n * 4 ≤ 140737488355328 := by omega
      have hst : (n : Int) ≤ stand l.length (a : Int) / 4 := by unfold stand; split <;> omega
      have hst0 : 0 ≤ stand l.length (a : Int) := by unfold stand; split <;> omega
      have hst1 : stand l.length (a : Int) ≤ 281474976710656 := by unfold stand; split <;> omega
      generalize stand l.length (a : Int) = st at *
      have hmk := make_words n hn4
      have HL : Hid (HasB w (.slice lo l.length lc) l ∧ Bts l) := ⟨hl, hb⟩
      have HG : Hid ((0 : Int) ≤ (a : Int) ∧ (0 : Int) ≤ (n : Int) ∧ (4 * (n : Int) ≤ (l.length : Int) - (a : Int) ∨ (n : Int) = 0)) := ⟨j1, j2, h2⟩
      have i1 : ¬ ((n : Int) > st / 4) := by omega
      clear hl hb h2 hcm
      go_enter Try.func12, Try.ntmps12
      go_wp2_with (go_at_call 17; refine hS.mono ?_; rintro e w1 ⟨rfl, rfl⟩)
      have H1 : Hid ((w1.alloc (.cells (wv (List.replicate n 0)).toArray 40)).ownsRow w1.heap.size 40 1 (.slice (some ⟨w1.heap.size, 0, none⟩) n n) n (wv (List.replicate n 0)) ∧ Below w1.heap.size w1 (w1.alloc (.cells (wv (List.replicate n 0)).toArray 40))) := by
        have h := wown_new w1 (List.replicate n 0) w1.heap.size (Nat.le_refl _) (by rw [List.length_replicate]; unfold maxLen; omega)
        rw [List.length_replicate] at h
        exact ⟨h, (Below.refl _ w1).alloc (Nat.le_refl _) _⟩
      clear hmk hS
      go_loopw [1, 29] (fun av nv wr => ∃ (k : Nat) (M : List Nat), k ≤ n ∧ nv = .int .i64 k ∧ av = .int .i64 ((a : Int) + 4 * (k : Int)) ∧ M.length = n ∧ M.take k = (wordsOf l a n).take k ∧ wr.ownsRow w1.heap.size 40 1 (.slice (some ⟨w1.heap.size, 0, none⟩) n n) n (wv M) ∧ Below w1.heap.size w1 wr) (fun _ nv _ => n - (intOf nv).toNat)
      case atStart => exact ⟨0, List.replicate n 0, Nat.zero_le _, rfl, by simp, by simp, by simp, H1.out.1, H1.out.2⟩
      case round =>
        obtain ⟨k, M, hk, rfl, rfl, hM, hMt, hO, hB⟩ := hrel
        by_cases hlt : k < n
        · have hin : 4 * (n : Int) ≤ (l.length : Int) - (a : Int) := by
            rcases HG.out.2.2 with h | h
            · exact h
            · omega
          obtain ⟨x0, hx0⟩ : ∃ x, l[a + 4 * k]? = some x := ⟨l[a + 4 * k]'(by omega), List.getElem?_eq_getElem _⟩
          have hlw := HL.out.1.keep hB
          obtain ⟨b, off, hlo, _, _⟩ := hlw.at hx0
          subst hlo
          have hpl : (piece l (a + 4 * k) 4).length = 4 := piece_len (by omega)
          have hN := number_calls b (off + (a + 4 * k)) (lc - (a + 4 * k)) 4 (piece l (a + 4 * k) 4) wr (hasB_piece hlw (a + 4 * k) 4 (lc - (a + 4 * k)) hpl) (piece_bts HL.out.2 _ _) (by omega) (by omega) hpl
          have hsl : ∀ wx, (Instr.slice 22 (.slice (some ⟨b, off, none⟩) l.length lc) (some (.int .i64 ((a : Int) + 4 * (k : Int)))) (some (.int .i64 ((a : Int) + 4 * (k : Int) + 4))) none).run Try.prog wx = .ok (.slice (some ⟨b, off + (a + 4 * k), none⟩) 4 (lc - (a + 4 * k))) wx := fun wx => by
            have h := slice_midB b off l.length lc (a + 4 * k) (a + 4 * k + 4) (by omega) (by omega) hc wx
            rw [show a + 4 * k + 4 - (a + 4 * k) = 4 by omega] at h
            exact h
          have hwr : IntKind.i64.wrap ((a : Int) + 4 * (k : Int) + 4) = (a : Int) + 4 * (k : Int) + 4 := by rw [IntKind.wrap_i64] <;> omega
          have hx4 := num_4 (piece_bts HL.out.2 (a + 4 * k) 4) hpl
          have HW : Hid ((wordsOf l a n)[k]? = some (num (piece l (a + 4 * k) 4))) := wordsOf_at hlt
          obtain ⟨g', c', hv, _, hgl, hfz, hcell⟩ := wown_at hO (by omega)
          injection hv with hv1 _ hv3
          injection hv1 with hv1
          injection hv1 with hv1
          subst hv1 hv3
          obtain ⟨y, hy⟩ : ∃ y, M[k]? = some y := ⟨M[k]'(by omega), List.getElem?_eq_getElem _⟩
          have c0 := hcell k y hy
          have f0 := hfz k
          have i2 : (k : Int) < (n : Int) := by omega
          have HK : Hid (M.take k = (wordsOf l a n).take k ∧ wr.ownsRow w1.heap.size 40 1 (.slice (some ⟨w1.heap.size, 0, none⟩) n n) n (wv M) ∧ Below w1.heap.size w1 wr ∧ M.length = n) := ⟨hMt, hO, hB, hM⟩
          generalize num (piece l (a + 4 * k) 4) = x at *
          clear hy hcell hfz hlw hx0 hM hMt hO hB
          go_wp2_with (go_at_call 19; refine hN.mono ?_; rintro e w2 ⟨rfl, rfl⟩)
          refine ⟨⟨k + 1, M.set k x, by omega, by rw [show (k : Int) + 1 = ((k + 1 : Nat) : Int) by omega], by congr 1, by rw [List.length_set]; exact HK.out.2.2.2, set_next (by rw [HK.out.2.2.2]; exact hlt) HW.out HK.out.1, wown_set HK.out.2.1 x, below_set HK.out.2.2.1 (Nat.le_refl _) _ _⟩, by simp only [intOf]; omega⟩
        · obtain rfl : k = n := by omega
          have eM : M = wordsOf l a k := by
            have h := hMt
            rw [List.take_of_length_le (by omega), List.take_of_length_le (by rw [wordsOf_len]; exact Nat.le_refl _)] at h
            exact h
          have HK : Hid (wr.ownsRow w1.heap.size 40 1 (.slice (some ⟨w1.heap.size, 0, none⟩) k k) k (wv (wordsOf l a k)) ∧ Below w1.heap.size w1 wr) := ⟨by rw [← eM]; exact hO, hB⟩
          clear eM hM hMt hO hB
          have i2 : ¬ ((k : Int) < (k : Int)) := by omega
          go_wp2_with fail
          go_ret2
          exact ⟨HK.out.2, Or.inl ⟨HG.out.1, HG.out.2.1, HG.out.2.2, _, _, rfl, HK.out.1⟩⟩
    · have hs0 : 0 ≤ stand l.length at_ := by unfold stand; split <;> omega
      have hst : stand l.length at_ / 4 < c := by unfold stand; split <;> omega
      have hst1 : stand l.length at_ ≤ 281474976710656 := by unfold stand; split <;> omega
      have hR := short_calls lo lc l.length w
      have HG : Hid ((l.length : Int) - at_ < 4 * c ∧ 0 < c) := (by omega : (l.length : Int) - at_ < 4 * c ∧ 0 < c)
      generalize stand l.length at_ = st at *
      clear h2 hl hb hcm
      go_enter Try.func12, Try.ntmps12
      go_wp2_with (first
        | (go_at_call 17; refine hS.mono ?_; rintro e w1 ⟨rfl, rfl⟩)
        | (go_at_call 18; refine hR.mono ?_; rintro e w2 ⟨t, x, rfl, hb⟩; have H2 : Hid (Below w1.heap.size w1 w2) := hb; clear hb))
      go_ret2
      exact ⟨H2.out, Or.inr ⟨Or.inr (Or.inr HG.out), t, x, rfl⟩⟩
end Go.Proofs.Ytemdocnhdnhliab
