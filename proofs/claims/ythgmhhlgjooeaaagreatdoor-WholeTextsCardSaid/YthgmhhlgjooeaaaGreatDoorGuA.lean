/- gtext's Print: a row, walked. -/
import Derived.Test.YthgmhhlgjooeaaaGreatDoorGtK
import Derived.Test.YthgmhhlgjooeaaaGreatDoorGuM
import Derived.Test.YthgmhhlgjooeaaaGreatDoorGtS
import Derived.Lib.BufferKept
import Derived.Lib.AppendIntMem
namespace Go.Proofs.YthgmhhlgjooeaaaGreatDoor.Gt
open Go Go.Lib Go.RowKit Go.Extern Hi

attribute [local go_sem] Oper.semAt_some

/-- the table of package strconv. -/
def TabW (w : World) : Prop := TabIs Tryz.prog w "internal/strconv.uint64pow10" .u64 pow10Tab
theorem tab_glob : Tryz.prog.globalNamed "internal/strconv.uint64pow10" = some 1 := by kernel_rfl
theorem TabW.lt {w : World} (h : TabW w) : 1 < w.heap.size := by
  unfold TabW TabIs World.var? at h
  rw [tab_glob] at h
  simp only [Option.bind_some] at h
  rcases Nat.lt_or_ge 1 w.heap.size with h' | h'
  · exact h'
  · rw [Array.getElem?_eq_none h'] at h; cases h
theorem TabW.keep {w w' : World} {n : Nat} (h : TabW w) (hb : Below n w w') (hn : 1 < n) : TabW w' := by
  unfold TabW TabIs World.var? at h ⊢
  rw [tab_glob] at h ⊢
  simp only [Option.bind_some] at h ⊢
  rw [hb.block 1 hn]
  exact h
theorem ownF_keep {w w' : World} {B n : Nat} {v : Value} {xs : List Value} {e : TypeId} {z : Nat} (h : w.ownsRowF B e z v n xs) (hb : Below w.heap.size w w') : w'.ownsRowF B e z v n xs := by
  rcases h.2 with ⟨e1, h0⟩ | ⟨g, cap, cur, fz, e1, hg, hh, r⟩
  · exact ⟨h.1, .inl ⟨e1, h0⟩⟩
  · exact ⟨h.1, .inr ⟨g, cap, cur, fz, e1, hg, (hb.block g (Array.getElem?_eq_some_iff.1 hh).1).trans hh, r⟩⟩
theorem bldAt_keep {w w' : World} {T e : TypeId} {B b : Nat} {p : Value} {xs : List Value} (h : BuilderAtF T e B b p xs w) (hb : Below w.heap.size w w') : BuilderAtF T e B b p xs w' := by
  obtain ⟨h1, v, h2, h3, h4⟩ := h
  exact ⟨h1, v, (hb.block b (Array.getElem?_eq_some_iff.1 h2).1).trans h2, ownF_keep h3 hb, h4⟩
theorem bld_keep {w w' : World} {T e : TypeId} {B b : Nat} {xs : List Value} (h : IsBuilderF T e B b xs w) (hb : Below w.heap.size w w') : IsBuilderF T e B b xs w' :=
  h.imp (fun h => bldAt_keep h hb) (fun h => bldAt_keep h hb)
/-- a builder that holds bytes; what lay below its base, and what is neither it nor bytes, is as it was. -/
structure Bld (w0 : World) (B b : Nat) (L : By) (w : World) : Prop where
  blt : IsBuilderF 62 5 B b (byteCells L) w
  bel : Below B w0 w
  oth : OthersKept 5 (some b) w0 w
  bw : B ≤ w.heap.size
theorem Bld.up {w0 w w' : World} {B b : Nat} {L : By} (h : Bld w0 B b L w) (hb : Below w.heap.size w w') : Bld w0 B b L w' := ⟨bld_keep h.blt hb, h.bel.trans (hb.mono h.bw), h.oth.below hb, Nat.le_trans h.bw hb.size⟩
theorem Bld.lt {w0 w : World} {B b : Nat} {L : By} (h : Bld w0 B b L w) : B ≤ b ∧ b < w.heap.size := by
  rcases h.blt with h | h
  · exact ⟨h.1, h.lt⟩
  · exact ⟨h.1, h.lt⟩
theorem Bld.ws {w0 w w' : World} {B b : Nat} {L : By} {s : ByteArray} (h : Bld w0 B b L w) (hb : BuilderAtF 62 5 B b (.pointer (some ⟨b, 0, none⟩)) (byteCells L ++ strCells s) w' ∧ Below B w w' ∧ OthersKept 5 (some b) w w') : Bld w0 B b (L ++ bs s) w' := by
  refine ⟨Or.inr ?_, h.bel.trans hb.2.1, h.oth.trans hb.2.2, Nat.le_trans h.bw hb.2.1.size⟩
  rw [byteCells_append]
  exact hb.1
theorem Bld.wb {w0 w w' : World} {B b : Nat} {L : By} {c : UInt8} (h : Bld w0 B b L w) (hb : BuilderAtF 62 5 B b (.pointer (some ⟨b, 0, none⟩)) (byteCells L ++ [.int .u8 (c.toNat : Int)]) w' ∧ Below B w w' ∧ OthersKept 5 (some b) w w') : Bld w0 B b (L ++ [c]) w' := by
  refine ⟨Or.inr ?_, h.bel.trans hb.2.1, h.oth.trans hb.2.2, Nat.le_trans h.bw hb.2.1.size⟩
  rw [byteCells_append]
  exact hb.1
/-- numbers in a block of numbers. -/
def NumsAt (w : World) (io : Option Addr) (ns : List Int) : Prop := ns = [] ∨ ∃ (g : Nat) (cur : Array Value), io = some ⟨g, 0, none⟩ ∧ w.heap[g]? = some (.cells cur 3) ∧ ∀ (i : Nat) (n : Int), ns[i]? = some n → cur[i]? = some (.int .i64 n)
theorem bu_ne : 3 ≠ 5 ∧ 3 ≠ 62 ∧ 24 ≠ 5 ∧ 24 ≠ 62 ∧ 50 ≠ 5 ∧ 50 ≠ 62 := by decide
/-- a block that is no builder's and no bytes is as it was. -/
theorem Bld.kept {w0 w : World} {B b : Nat} {L : By} {j : Nat} {c : Array Value} {T : TypeId} (h : Bld w0 B b L w) (hj : w0.heap[j]? = some (.cells c T)) (hjb : j ≠ b) (hT : T ≠ 5) : w.heap[j]? = some (.cells c T) :=
  h.oth j _ hj (fun e => hjb (Option.some.inj e)) (fun c2 fz e => by injection e with _ e2; exact hT e2)
theorem bld_apart {w0 : World} {B b : Nat} {L : By} {j : Nat} {c : Array Value} {T : TypeId} (h : Bld w0 B b L w0) (hj : w0.heap[j]? = some (.cells c T)) (hT : T ≠ 62) : j ≠ b := by
  intro e
  subst e
  rcases h.blt with ⟨_, v, h2, _⟩ | ⟨_, v, h2, _⟩
  · rw [h2] at hj; injection hj with hj; injection hj with _ hj; exact hT hj.symm
  · rw [h2] at hj; injection hj with hj; injection hj with _ hj; exact hT hj.symm
def intOk (n : Int) : Prop := -9223372036854775808 ≤ n ∧ n ≤ 9223372036854775807
theorem numL_len : ∀ (ns : List Int), (∀ n ∈ ns, intOk n) → (numL ns).length ≤ 22 * ns.length
  | [], _ => Nat.zero_le _
  | n :: ns, h => by
    have h1 := itoa_length_le n (h n (by simp)).1 (h n (by simp)).2
    have h2 := numL_len ns fun m hm => h m (by simp [hm])
    have e : numL (n :: ns) = 32 :: (itoa n ++ numL ns) := rfl
    rw [e]
    simp only [List.length_cons, List.length_append]
    omega
theorem num_step {ns : List Int} {k : Nat} {n : Int} (h : ns[k]? = some n) (L W : By) : L ++ W ++ numL (ns.take (k + 1)) = L ++ W ++ numL (ns.take k) ++ [32] ++ itoa n := by
  rw [List.take_add_one, h, Option.toList, numL_append]
  simp [numL]

set_option maxRecDepth 100000 in
set_option maxHeartbeats 4000000 in
theorem prow_calls (B b : Nat) (L : By) (word : ByteArray) (io : Option Addr) (ic : Nat) (ns : List Int) (w : World) (h : Bld w B b L w) (hT : TabW w) (hB : 1 < B) (hn : NumsAt w io ns) (hr : ∀ n ∈ ns, intOk n) (hl : L.length + word.size + 22 * ns.length + 1 ≤ 140737488355328) :
    Calls Tryz.prog 19 #[.string word, .slice io ns.length ic, .pointer (some ⟨b, 0, none⟩)] w fun e w' => e = .returned (.tuple #[]) ∧ Bld w B b (L ++ rowL (bs word) ns) w' := by
  have HWS := Tryz.Builder_WriteString_k B b (byteCells L) word w h.blt (by rw [byteCells_length]; omega) h.bw
  have HW : Hid (Calls Tryz.prog 20 #[.pointer (some ⟨b, 0, none⟩), .string word] w _) := HWS
  have HBL : Hid (Bld w B b L w) := h
  have HNA : Hid (NumsAt w io ns) := hn
  have HR : Hid (∀ n ∈ ns, intOk n) := hr
  have HTB : Hid (TabW w) := hT
  have hn1 : ns.length ≤ 6397158561606 := by omega
  have HLN : Hid (L.length + word.size + 22 * ns.length + 1 ≤ 140737488355328) := hl
  clear HWS h hn hr hT hl
  go_enter Tryz.func19, Tryz.ntmps19
  go_wp2_with fail
  refine HW.out.mono ?_
  rintro e y1 ⟨rfl, hy1⟩
  have HB1 : Hid (Bld w B b (L ++ bs word) y1) := HBL.out.ws hy1
  clear hy1 HW
  go_wp2_with fail
  go_loopw [11] (fun iv wr => ∃ k : Nat, k ≤ ns.length ∧ iv = .int .i64 k ∧ Hid (Bld w B b (L ++ bs word ++ numL (ns.take k)) wr)) (fun iv _ => ns.length - (intOf iv).toNat)
  case atStart => exact ⟨0, Nat.zero_le _, rfl, by show Bld _ _ _ _ _; rw [List.take_zero, show numL [] = [] from rfl, List.append_nil]; exact HB1.out⟩
  case round =>
    obtain ⟨k, hk, rfl, HI⟩ := hrel
    have HLK : Hid ((L ++ bs word ++ numL (ns.take k)).length + 23 ≤ 140737488355328 ∨ ns.length ≤ k) := by
      rcases Nat.lt_or_eq_of_le hk with h1 | h1
      · left
        have h2 := numL_len (ns.take k) fun n hn => HR.out n (List.mem_of_mem_take hn)
        have h3 := HLN.out
        rw [List.length_take] at h2
        rw [List.length_append, List.length_append, bs_len]
        omega
      · right; omega
    rcases Nat.lt_or_eq_of_le hk with h1 | h1
    · obtain ⟨n, hn⟩ : ∃ n, ns[k]? = some n := ⟨_, List.getElem?_eq_getElem h1⟩
      have hnk := HR.out n (List.mem_of_getElem? hn)
      obtain ⟨g, cur, rfl, hg, hc⟩ : ∃ (g : Nat) (cur : Array Value), io = some ⟨g, 0, none⟩ ∧ w.heap[g]? = some (.cells cur 3) ∧ cur[k]? = some (.int .i64 n) := by
        rcases HNA.out with e | ⟨g, cur, e, hg, hc⟩
        · rw [e] at h1; simp at h1
        · exact ⟨g, cur, e, hg, hc k n hn⟩
      have hgw := HI.out.kept hg (bld_apart HBL.out hg bu_ne.2.1) bu_ne.1
      have c0 : wr.cell? ⟨g, k, none⟩ = some (.int .i64 n) := by simp [World.cell?, hgw, hc]
      have i1 : decide ((k : Int) < (ns.length : Int)) = true := by simp; omega
      have i2 : (0 : Int) ≤ (k : Int) := by omega
      have i3 : (k : Int) < (ns.length : Int) := by omega
      have HB2 := Tryz.Builder_WriteByte_k B b (byteCells (L ++ bs word ++ numL (ns.take k))) 32 wr HI.out.blt (by rw [byteCells_length]; have := HLK.out; omega) HI.out.bw
      have HWB : Hid (Calls Tryz.prog 21 #[.pointer (some ⟨b, 0, none⟩), .int .u8 32] wr _) := HB2
      have HNN : Hid (ns[k]? = some n ∧ intOk n) := ⟨hn, hnk⟩
      clear HB2 hn hg hc hgw hnk
      go_wp2_with fail
      refine HWB.out.mono ?_
      rintro e y2 ⟨rfl, hy2⟩
      have HB3 : Hid (Bld w B b (L ++ bs word ++ numL (ns.take k) ++ [32]) y2) := HI.out.wb (c := 32) hy2
      have HIT := Tryz.strconv_Itoa n HNN.out.2.1 HNN.out.2.2 y2 (HTB.out.keep HB3.out.bel hB)
      have HIT2 : Hid (Calls Tryz.prog 22 #[.int .i64 n] y2 _) := HIT
      clear hy2 HWB HIT c0
      go_wp2_with fail
      refine HIT2.out.mono ?_
      rintro e y3 ⟨rfl, kk, os, hy3⟩
      have HB4 : Hid (Bld w B b (L ++ bs word ++ numL (ns.take k) ++ [32]) y3) := HB3.out.up (by rw [hy3]; exact below_grow _ _ (Nat.le_refl _) _ _)
      have HWS2 := Tryz.Builder_WriteString_k B b (byteCells (L ++ bs word ++ numL (ns.take k) ++ [32])) ⟨(itoa n).toArray⟩ y3 HB4.out.blt (by
        have h5 := itoa_length_le n HNN.out.2.1 HNN.out.2.2
        have h6 := HLK.out
        rw [byteCells_length]
        rw [List.length_append]
        show _ + 1 + (itoa n).toArray.size ≤ _
        rw [List.size_toArray]
        omega) HB4.out.bw
      have HW2 : Hid (Calls Tryz.prog 20 #[.pointer (some ⟨b, 0, none⟩), .string ⟨(itoa n).toArray⟩] y3 _) := HWS2
      clear HWS2 hy3 HIT2
      go_wp2_with fail
      refine HW2.out.mono ?_
      rintro e y4 ⟨rfl, hy4⟩
      have HB5 : Hid (Bld w B b (L ++ bs word ++ numL (ns.take (k + 1))) y4) := by
        show Bld _ _ _ _ _
        rw [num_step HNN.out.1]
        exact HB4.out.ws hy4
      clear hy4 HW2
      go_wp2_with fail
      go_roundw
      case rel => exact ⟨k + 1, by omega, by rw [show (k : Int) + 1 = ((k + 1 : Nat) : Int) by omega], HB5.out⟩
      case measure => simp only [intOf]; omega
    · have i1 : decide ((k : Int) < (ns.length : Int)) = false := by simp; omega
      have HB6 : Hid (Bld w B b (L ++ bs word ++ numL ns) wr) := by
        have := HI.out
        rw [h1, List.take_length] at this
        exact this
      have HB2 := Tryz.Builder_WriteByte_k B b (byteCells (L ++ bs word ++ numL ns)) 10 wr HB6.out.blt (by
        have h2 := numL_len ns HR.out
        have h3 := HLN.out
        rw [byteCells_length, List.length_append, List.length_append, bs_len]
        omega) HB6.out.bw
      have HWB : Hid (Calls Tryz.prog 21 #[.pointer (some ⟨b, 0, none⟩), .int .u8 10] wr _) := HB2
      clear HB2
      go_wp2_with fail
      refine HWB.out.mono ?_
      rintro e y2 ⟨rfl, hy2⟩
      have HB3 : Hid (Bld w B b (L ++ rowL (bs word) ns) y2) := by
        have := HB6.out.wb (c := 10) hy2
        unfold rowL
        rw [← List.append_assoc, ← List.append_assoc]
        exact this
      clear hy2 HWB
      go_wp2
      go_end0
      exact ⟨rfl, HB3.out⟩
end Go.Proofs.YthgmhhlgjooeaaaGreatDoor.Gt
