/- bytes in memory: rows of one's own; the reference's copy (Twin), its comparison of two lists that are one (Same). -/
import Derived.Test.YtjjfnioplddppaaDoorCrC
import Derived.Deep.AppendLies
import Derived.Deep.OwnRows
import Derived.Laws.AppendOwnNone
import Derived.Laws.BytesString
import Derived.Laws.Cells
namespace Go.Proofs.YtjjfnioplddppaaDoor
open Go.RowKit Go.Extern Cr

attribute [local go_sem] Oper.semAt_some u32_signed u32_max

theorem fours_keep {w w' : World} (hf : HasFours w) (hg : 0 < w.heap.size) (hb : Below w.heap.size w w') : HasFours w' := fun i hi => (hb.cell (p := ⟨0, i, none⟩) hg).trans (hf i hi)
theorem infoB : ∃ i, Tryd.prog.info? 5 = some i ∧ i.zero = some (.int .u8 0) ∧ i.size = 1 ∧ i.bytes = 1 := by
  have h : (Tryd.prog.info? 5).map (fun i => (i.zero, i.size, i.bytes)) = some (some (.int .u8 0), 1, 1) := by kernel_rfl
  cases hi : Tryd.prog.info? 5 with
  | none => rw [hi] at h; cases h
  | some i => rw [hi] at h; simp at h; exact ⟨i, rfl, h.1, h.2.1, h.2.2⟩
/-- bytes as cells. -/
def bv (l : List Nat) : List Value := l.map fun (n : Nat) => Value.int .u8 (n : Int)
theorem bv_len (l : List Nat) : (bv l).length = l.length * 1 := by simp [bv]
theorem bv_append (l r : List Nat) : bv (l ++ r) = bv l ++ bv r := by simp [bv]
theorem b_lt_get {w : World} {k : Nat} {o : Obj} (h : w.heap[k]? = some o) : k < w.heap.size := by
  rcases Nat.lt_or_ge k w.heap.size with h' | h'
  · exact h'
  · rw [Array.getElem?_eq_none h'] at h; cases h
theorem bown_keep {w w' : World} {B n : Nat} {v : Value} {xs : List Value} (h : w.ownsRow B 5 1 v n xs) (hk : ∀ k, v.ownBlock = some k → w'.heap[k]? = w.heap[k]?) : w'.ownsRow B 5 1 v n xs := by
  obtain ⟨h1, h2⟩ := h
  refine ⟨h1, ?_⟩
  rcases h2 with h2 | ⟨g, cap, cur, e, hb, hh, r⟩
  · exact Or.inl h2
  · subst e
    exact Or.inr ⟨g, cap, cur, rfl, hb, (hk g rfl).trans hh, r⟩
theorem bown_below {w w' : World} {B n : Nat} {v : Value} {xs : List Value} (h : w.ownsRow B 5 1 v n xs) (hb : Below w.heap.size w w') : w'.ownsRow B 5 1 v n xs := bown_keep h fun k hk => hb.block _ (h.lt k hk).2
theorem bown_base {w : World} {B B' n : Nat} {v : Value} {xs : List Value} (h : w.ownsRow B' 5 1 v n xs) (hb : B ≤ B') : w.ownsRow B 5 1 v n xs := by
  obtain ⟨h1, h2⟩ := h
  refine ⟨h1, ?_⟩
  rcases h2 with h2 | ⟨g, cap, cur, e, hg, r⟩
  · exact Or.inl h2
  · exact Or.inr ⟨g, cap, cur, e, by omega, r⟩
theorem bown_slice {w : World} {B n : Nat} {v : Value} {xs : List Value} (h : w.ownsRow B 5 1 v n xs) : ∃ ao cap, v = .slice ao n cap := by
  rcases h.2 with ⟨h, h'⟩ | ⟨g, cap, cur, h, _⟩
  · exact ⟨none, 0, by rw [h']; exact h⟩
  · exact ⟨_, cap, h⟩
theorem hasB_own {w : World} {B : Nat} {v : Value} {l : List Nat} (h : w.ownsRow B 5 1 v l.length (bv l)) : HasB w v l := by
  rcases h.2 with ⟨e, h0⟩ | ⟨g, cap, cur, rfl, hg, hh, _⟩
  · have : l = [] := List.eq_nil_of_length_eq_zero h0
    subst this
    exact ⟨none, 0, e, fun j p hj => by simp at hj⟩
  · refine ⟨_, cap, rfl, fun j a hj => ⟨g, 0, rfl, b_lt_get hh, ?_⟩⟩
    have hlt := (List.getElem?_eq_some_iff.1 hj).1
    rw [Nat.zero_add]
    exact (h.cellAt j (by omega)).trans (by simp [bv, hj])
theorem bbelow_grown {w0 w w' : World} {base n : Nat} {xs : List Value} {v : Value} (hb : Below base w0 w) (h : w.ownsRow base 5 1 v n xs) (hg : w.grownBy w' v.ownBlock) (hs : base ≤ w.heap.size) : Below base w0 w' :=
  hb.trans ⟨hg.os, hg.tape, hg.output, hg.size, fun j hj => hg.block j (Nat.lt_of_lt_of_le hj hs) (fun e => by have := (h.lt j e.symm).1; omega)⟩
theorem hasB_cells {w : World} {b off n cap : Nat} {l : List Nat} (h : HasB w (.slice (some ⟨b, off, none⟩) n cap) l) : ∀ j u, (bv l)[j]? = some u → w.cell? ((⟨b, off, none⟩ : Addr).add j) = some u := by
  intro j u hj
  simp only [bv, List.getElem?_map, Option.map_eq_some_iff] at hj
  obtain ⟨a, ha, rfl⟩ := hj
  obtain ⟨b', off', e, _, hc⟩ := h.at ha
  injection e with e
  injection e with e1 e2 e3
  subst e1 e2
  have e : (Addr.mk b off none).add j = ⟨b, off + j, none⟩ := by unfold Addr.add; split <;> simp_all
  rw [e]
  exact hc
theorem bv_one (l : List Nat) : ∀ u ∈ bv l, u.oneCell' = true := by
  intro u hu
  simp only [bv, List.mem_map] at hu
  obtain ⟨n, _, rfl⟩ := hu
  rfl
theorem hasB_nil {w : World} {n cap : Nat} {l : List Nat} (h : HasB w (.slice none n cap) l) : l = [] := by
  cases l with
  | nil => rfl
  | cons a r =>
    obtain ⟨b, off, e, _⟩ := h.at (k := 0) (a := a) rfl
    cases e
theorem hasB_plain {w : World} {ad : Addr} {n cap : Nat} {l : List Nat} (h : HasB w (.slice (some ad) n cap) l) (h0 : l ≠ []) : ∃ b off, ad = ⟨b, off, none⟩ := by
  cases l with
  | nil => exact absurd rfl h0
  | cons a r =>
    obtain ⟨b, off, e, _⟩ := h.at (k := 0) (a := a) rfl
    exact ⟨b, off, Option.some.inj e⟩

theorem hasB_cells' {w : World} {ad : Addr} {n cap : Nat} {l : List Nat} (h : HasB w (.slice (some ad) n cap) l) : ∀ j u, (bv l)[j]? = some u → w.cell? (ad.add j) = some u := by
  intro j u hj
  have h0 : l ≠ [] := by rintro rfl; simp [bv] at hj
  obtain ⟨b, off, rfl⟩ := hasB_plain h h0
  exact hasB_cells h j u hj

/-- bytes behind a row of one's own, wherever they lie. -/
theorem wpList_append_B {w : World} {ops : Array Oper} {rest : List Oper} {o : Oper} {a : Act} {Q : Exit → Act → World → Prop} (hgd : o.guard = none) (s x : Operand)
    (ho : o.op = .call { callee := .builtin .append, args := #[s, x], argTypes := #[25, 25] })
    (base : Nat) (v : Value) (L : List Nat) (hs : a.eval s = v) (hown : w.ownsRow base 5 1 v L.length (bv L))
    (lo : Option Addr) (lc : Nat) (l : List Nat) (hx : a.eval x = .slice lo l.length lc) (hl : HasB w (.slice lo l.length lc) l) (hno : lo = none → lc = 0)
    (hlen : L.length + l.length ≤ 140737488355328) (hbase : base ≤ w.heap.size)
    (h : ∀ v' w', w'.ownsRow base 5 1 v' (L ++ l).length (bv (L ++ l)) → w.grownBy w' v.ownBlock → wpList Tryd.prog ops Q rest (a.put o.dst v') w') : wpList Tryd.prog ops Q (o :: rest) a w := by
  obtain ⟨i0, hi, hz0, hz1, hz2⟩ := infoB
  cases lo with
  | none =>
    have hc := hno rfl
    subst hc
    obtain rfl := hasB_nil hl
    refine wpList_append_own_none hgd s x 25 ho base 5 i0 1 Tryd.underlying25 hi v L.length (bv L) hs hown hx ?_
    exact h v w (by simpa using hown) ⟨rfl, rfl, rfl, Nat.le_refl _, fun _ _ _ => rfl⟩
  | some ad =>
    refine wpList_append_own _ hgd s x 25 ho base 5 i0 (.int .u8 0) 1 1 Tryd.underlying25 hi hz0 hz1 hz2 rfl (by decide) v L.length (bv L) hs hown ad l.length lc (bv l) hx (bv_len l) (hasB_cells' hl) (bv_one l) (by unfold maxLen; omega) (by omega) hbase ?_
    intro v' w' h1 h2 _
    exact h v' w' (by rw [List.length_append, bv_append]; exact h1) h2

/-- the string that bytes are. -/
def strOf (l : List Nat) : ByteArray := (l.map fun (n : Nat) => (n : Int)).foldl (fun r n => r.push (UInt8.ofNat n.toNat)) ByteArray.empty
theorem run_bytesStr {w : World} {lo : Option Addr} {lc : Nat} {l : List Nat} (hl : HasB w (.slice lo l.length lc) l) : (convert 25 9 (.slice lo l.length lc)).run Tryd.prog w = .ok (.string (strOf l)) w := by
  rw [run_convert_bytes_string w 25 9 5 _ _ _ Tryd.underlying25 Tryd.underlying5 Tryd.underlying9]
  cases lo with
  | none =>
    obtain rfl := hasB_nil hl
    simp [Conv.bytesToString, Sem.run_pure, strOf]
  | some ad =>
    refine run_bytesToString w ad l.length lc (l.map fun (n : Nat) => (n : Int)) ?_
    have h := run_loadCells_list (P := Tryd.prog) (w := w) ad (bv l) (hasB_cells' hl)
    have e : (l.map fun (n : Nat) => (n : Int)).map (Value.int .u8) = bv l := by simp [bv]
    rw [e]
    have e2 : (bv l).length = l.length := by rw [bv_len, Nat.mul_one]
    rw [e2] at h
    exact h
theorem wpList_bytesStr {w : World} {ops : Array Oper} {rest : List Oper} {o : Oper} {a : Act} {Q : Exit → Act → World → Prop} (hgd : o.guard = none) (s : Operand) (ho : o.op = .convert 25 9 s)
    {lo : Option Addr} {lc : Nat} {l : List Nat} (hl : HasB w (.slice lo l.length lc) l) (hs : a.eval s = .slice lo l.length lc)
    (h : wpList Tryd.prog ops Q rest (a.put o.dst (.string (strOf l))) w) : wpList Tryd.prog ops Q (o :: rest) a w := by
  refine wpList_plain hgd fun K hK => ?_
  have hrun := run_bytesStr hl
  unfold Oper.wp
  simp [execOp, ho, hs, hrun, Result.andThen]
  exact hK _ _ h
set_option maxRecDepth 100000 in
set_option maxHeartbeats 1000000 in
theorem kSame_calls (ao bo : Option Addr) (ac bc : Nat) (l : List Nat) (w : World) (ha : HasB w (.slice ao l.length ac) l) (hb : HasB w (.slice bo l.length bc) l) :
    Calls Tryd.prog 6 #[.slice ao l.length ac, .slice bo l.length bc] w fun e w' => e = .returned (.bool true) ∧ w' = w := by
  have HA : Hid (type_of% ha) := ha
  have HB : Hid (type_of% hb) := hb
  clear ha hb
  go_enter Tryd.func6, Tryd.ntmps6
  go_wp2_with (first | (refine wpList_bytesStr rfl (.tmp 5) rfl HA.out rfl ?_) | (refine wpList_bytesStr rfl (.tmp 7) rfl HB.out rfl ?_))
  go_ret
  exact ⟨rfl, rfl⟩
end Go.Proofs.YtjjfnioplddppaaDoor
