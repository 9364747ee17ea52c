/- words in memory: rows of numbers of four bytes. -/
import Derived.Test.YtemdocnhdnhliabDoorCrO
import Derived.Test.YtemdocnhdnhliabDoorCrG2
namespace Go.Proofs.YtemdocnhdnhliabDoor
open Go.RowKit Go.Extern Cr

attribute [local go_sem] Oper.semAt_some

/-- bytes in memory. -/
def HasW (w : World) (lv : Value) (xs : List Nat) : Prop :=
  ∃ ao cap, lv = .slice ao xs.length cap ∧ ∀ (j a : Nat), xs[j]? = some a → ∃ b off, ao = some ⟨b, off, none⟩ ∧ b < w.heap.size ∧ w.cell? ⟨b, off + j, none⟩ = some (.int .u32 (a : Int))
theorem HasW.keep {w w' : World} {lv : Value} {xs : List Nat} (h : HasW w lv xs) (hb : Below w.heap.size w w') : HasW w' lv xs := by
  obtain ⟨ao, cap, e, hc⟩ := h
  refine ⟨ao, cap, e, fun j a hj => ?_⟩
  obtain ⟨b, off, ea, hl, h0⟩ := hc j a hj
  exact ⟨b, off, ea, Nat.lt_of_lt_of_le hl hb.size, (hb.cell (p := ⟨b, _, none⟩) hl).trans h0⟩
theorem HasW.at {w : World} {ao : Option Addr} {n cap : Nat} {xs : List Nat} (h : HasW w (.slice ao n cap) xs) {k : Nat} {a : Nat} (hp : xs[k]? = some a) :
    ∃ b off, ao = some ⟨b, off, none⟩ ∧ b < w.heap.size ∧ w.cell? ⟨b, off + k, none⟩ = some (.int .u32 (a : Int)) := by
  obtain ⟨ao', cap', e, hc⟩ := h
  injection e with e1 e2 e3
  subst e1
  exact hc k a hp
theorem infoW : ∃ i, Tryd.prog.info? 25 = some i ∧ i.zero = some (.int .u32 0) ∧ i.size = 1 ∧ i.bytes = 4 := by
  have h : (Tryd.prog.info? 25).map (fun i => (i.zero, i.size, i.bytes)) = some (some (.int .u32 0), 1, 4) := by kernel_rfl
  cases hi : Tryd.prog.info? 25 with
  | none => rw [hi] at h; cases h
  | some i => rw [hi] at h; simp at h; exact ⟨i, rfl, h.1, h.2.1, h.2.2⟩
/-- bytes as cells. -/
def wv (l : List Nat) : List Value := l.map fun (n : Nat) => Value.int .u32 (n : Int)
theorem wv_len (l : List Nat) : (wv l).length = l.length * 1 := by simp [wv]
theorem wv_append (l r : List Nat) : wv (l ++ r) = wv l ++ wv r := by simp [wv]
theorem w_lt_get {w : World} {k : Nat} {o : Obj} (h : w.heap[k]? = some o) : k < w.heap.size := by
  rcases Nat.lt_or_ge k w.heap.size with h' | h'
  · exact h'
  · rw [Array.getElem?_eq_none h'] at h; cases h
theorem wown_keep {w w' : World} {B n : Nat} {v : Value} {xs : List Value} (h : w.ownsRow B 25 1 v n xs) (hk : ∀ k, v.ownBlock = some k → w'.heap[k]? = w.heap[k]?) : w'.ownsRow B 25 1 v n xs := by
  obtain ⟨h1, h2⟩ := h
  refine ⟨h1, ?_⟩
  rcases h2 with h2 | ⟨g, cap, cur, e, hb, hh, r⟩
  · exact Or.inl h2
  · subst e
    exact Or.inr ⟨g, cap, cur, rfl, hb, (hk g rfl).trans hh, r⟩
theorem wown_below {w w' : World} {B n : Nat} {v : Value} {xs : List Value} (h : w.ownsRow B 25 1 v n xs) (hb : Below w.heap.size w w') : w'.ownsRow B 25 1 v n xs := wown_keep h fun k hk => hb.block _ (h.lt k hk).2
theorem wown_base {w : World} {B B' n : Nat} {v : Value} {xs : List Value} (h : w.ownsRow B' 25 1 v n xs) (hb : B ≤ B') : w.ownsRow B 25 1 v n xs := by
  obtain ⟨h1, h2⟩ := h
  refine ⟨h1, ?_⟩
  rcases h2 with h2 | ⟨g, cap, cur, e, hg, r⟩
  · exact Or.inl h2
  · exact Or.inr ⟨g, cap, cur, e, by omega, r⟩
theorem wown_slice {w : World} {B n : Nat} {v : Value} {xs : List Value} (h : w.ownsRow B 25 1 v n xs) : ∃ ao cap, v = .slice ao n cap := by
  rcases h.2 with ⟨h, h'⟩ | ⟨g, cap, cur, h, _⟩
  · exact ⟨none, 0, by rw [h']; exact h⟩
  · exact ⟨_, cap, h⟩
theorem hasW_own {w : World} {B : Nat} {v : Value} {l : List Nat} (h : w.ownsRow B 25 1 v l.length (wv l)) : HasW w v l := by
  rcases h.2 with ⟨e, h0⟩ | ⟨g, cap, cur, rfl, hg, hh, _⟩
  · have : l = [] := List.eq_nil_of_length_eq_zero h0
    subst this
    exact ⟨none, 0, e, fun j p hj => by simp at hj⟩
  · refine ⟨_, cap, rfl, fun j a hj => ⟨g, 0, rfl, w_lt_get hh, ?_⟩⟩
    have hlt := (List.getElem?_eq_some_iff.1 hj).1
    rw [Nat.zero_add]
    exact (h.cellAt j (by omega)).trans (by simp [wv, hj])
theorem wbelow_grown {w0 w w' : World} {base n : Nat} {xs : List Value} {v : Value} (hb : Below base w0 w) (h : w.ownsRow base 25 1 v n xs) (hg : w.grownBy w' v.ownBlock) (hs : base ≤ w.heap.size) : Below base w0 w' :=
  hb.trans ⟨hg.os, hg.tape, hg.output, hg.size, fun j hj => hg.block j (Nat.lt_of_lt_of_le hj hs) (fun e => by have := (h.lt j e.symm).1; omega)⟩
theorem hasW_cells {w : World} {b off n cap : Nat} {l : List Nat} (h : HasW w (.slice (some ⟨b, off, none⟩) n cap) l) : ∀ j u, (wv l)[j]? = some u → w.cell? ((⟨b, off, none⟩ : Addr).add j) = some u := by
  intro j u hj
  simp only [wv, List.getElem?_map, Option.map_eq_some_iff] at hj
  obtain ⟨a, ha, rfl⟩ := hj
  obtain ⟨b', off', e, _, hc⟩ := h.at ha
  injection e with e
  injection e with e1 e2 e3
  subst e1 e2
  have e : (Addr.mk b off none).add j = ⟨b, off + j, none⟩ := by unfold Addr.add; split <;> simp_all
  rw [e]
  exact hc
theorem wv_one (l : List Nat) : ∀ u ∈ wv l, u.oneCell' = true := by
  intro u hu
  simp only [wv, List.mem_map] at hu
  obtain ⟨n, _, rfl⟩ := hu
  rfl
theorem hasW_nil {w : World} {n cap : Nat} {l : List Nat} (h : HasW w (.slice none n cap) l) : l = [] := by
  cases l with
  | nil => rfl
  | cons a r =>
    obtain ⟨b, off, e, _⟩ := h.at (k := 0) (a := a) rfl
    cases e
theorem hasW_plain {w : World} {ad : Addr} {n cap : Nat} {l : List Nat} (h : HasW w (.slice (some ad) n cap) l) (h0 : l ≠ []) : ∃ b off, ad = ⟨b, off, none⟩ := by
  cases l with
  | nil => exact absurd rfl h0
  | cons a r =>
    obtain ⟨b, off, e, _⟩ := h.at (k := 0) (a := a) rfl
    exact ⟨b, off, Option.some.inj e⟩

theorem hasW_cells' {w : World} {ad : Addr} {n cap : Nat} {l : List Nat} (h : HasW w (.slice (some ad) n cap) l) : ∀ j u, (wv l)[j]? = some u → w.cell? (ad.add j) = some u := by
  intro j u hj
  have h0 : l ≠ [] := by rintro rfl; simp [wv] at hj
  obtain ⟨b, off, rfl⟩ := hasW_plain h h0
  exact hasW_cells h j u hj

/-- bytes behind a row of one's own, wherever they lie. -/
theorem wpList_append_W {w : World} {ops : Array Oper} {rest : List Oper} {o : Oper} {a : Act} {Q : Exit → Act → World → Prop} (hgd : o.guard = none) (s x : Operand)
    (ho : o.op = .call { callee := .builtin .append, args := #[s, x], argTypes := #[30, 30] })
    (base : Nat) (v : Value) (L : List Nat) (hs : a.eval s = v) (hown : w.ownsRow base 25 1 v L.length (wv L))
    (lo : Option Addr) (lc : Nat) (l : List Nat) (hx : a.eval x = .slice lo l.length lc) (hl : HasW w (.slice lo l.length lc) l) (hno : lo = none → lc = 0)
    (hlen : (L.length + l.length) * 4 ≤ 140737488355328) (hbase : base ≤ w.heap.size)
    (h : ∀ v' w', w'.ownsRow base 25 1 v' (L ++ l).length (wv (L ++ l)) → w.grownBy w' v.ownBlock → wpList Tryd.prog ops Q rest (a.put o.dst v') w') : wpList Tryd.prog ops Q (o :: rest) a w := by
  obtain ⟨i0, hi, hz0, hz1, hz2⟩ := infoW
  cases lo with
  | none =>
    have hc := hno rfl
    subst hc
    obtain rfl := hasW_nil hl
    refine wpList_append_own_none hgd s x 30 ho base 25 i0 1 Tryd.underlying30 hi v L.length (wv L) hs hown hx ?_
    exact h v w (by simpa using hown) ⟨rfl, rfl, rfl, Nat.le_refl _, fun _ _ _ => rfl⟩
  | some ad =>
    refine wpList_append_own _ hgd s x 30 ho base 25 i0 (.int .u32 0) 1 4 Tryd.underlying30 hi hz0 hz1 hz2 rfl (by decide) v L.length (wv L) hs hown ad l.length lc (wv l) hx (wv_len l) (hasW_cells' hl) (wv_one l) (by unfold maxLen; omega) (by omega) hbase ?_
    intro v' w' h1 h2 _
    exact h v' w' (by rw [List.length_append, wv_append]; exact h1) h2

theorem wown_set {w : World} {B g n cap k : Nat} {L : List Nat} (h : w.ownsRow B 25 1 (.slice (some ⟨g, 0, none⟩) n cap) n (wv L)) (x : Nat) : (w.setCell ⟨g, k, none⟩ (.int .u32 (x : Int))).ownsRow B 25 1 (.slice (some ⟨g, 0, none⟩) n cap) n (wv (L.set k x)) := by
  obtain ⟨h1, h2⟩ := h
  rw [wv_len, Nat.mul_one, Nat.mul_one] at h1
  rcases h2 with ⟨h2, _⟩ | ⟨g', cap', cur, e, hb, hh, hnc, hcm, hcs, ht⟩
  · cases h2
  · injection e with e1 e2 e3
    injection e1 with e1
    injection e1 with e1
    subst e1 e3
    refine ⟨by rw [wv_len, List.length_set, h1], Or.inr ⟨g, cap, cur.setIfInBounds k (.int .u32 (x : Int)), rfl, hb, ?_, hnc, hcm, by simpa using hcs, ?_⟩⟩
    · simp only [World.setCell, Array.getElem?_modify]
      rw [if_pos trivial, hh]
      rfl
    · rw [Nat.mul_one] at ht ⊢
      rw [Array.toList_setIfInBounds, List.take_set, ht]
      simp only [wv, List.map_set]
theorem wown_at {w : World} {B n : Nat} {v : Value} {L : List Nat} (h : w.ownsRow B 25 1 v n (wv L)) (hn : 0 < n) : ∃ g cap, v = .slice (some ⟨g, 0, none⟩) n cap ∧ B ≤ g ∧ g < w.heap.size ∧ (∀ j, w.frozen? ⟨g, j, none⟩ = false) ∧ ∀ (j a : Nat), L[j]? = some a → w.cell? ⟨g, j, none⟩ = some (.int .u32 (a : Int)) := by
  obtain ⟨h1, h2⟩ := h
  have h1' : L.length = n := by rw [wv_len, Nat.mul_one, Nat.mul_one] at h1; exact h1
  rcases h2 with ⟨_, h2⟩ | ⟨g, cap, cur, e, hb, hh, hnc, hcm, hcs, ht⟩
  · omega
  · refine ⟨g, cap, e, hb, w_lt_get hh, fun j => by simp [World.frozen?, hh], fun j a hj => ?_⟩
    have hlt := (List.getElem?_eq_some_iff.1 hj).1
    simp only [World.cell?, hh]
    have : (cur.toList.take (n * 1))[j]? = some (.int .u32 (a : Int)) := by rw [ht]; simp [wv, hj]
    rw [List.getElem?_take] at this
    split at this
    · simpa using this
    · cases this
theorem hasW_new (w : World) (xs : List Nat) (cap : Nat) (fr : Nat × Nat) : HasW (w.alloc (.cells (wv xs).toArray 25 fr)) (.slice (some ⟨w.heap.size, 0, none⟩) xs.length cap) xs := by
  have h : (w.alloc (.cells (wv xs).toArray 25 fr)).heap[w.heap.size]? = some (.cells (wv xs).toArray 25 fr) := by show (w.heap.push _)[w.heap.size]? = _; simp
  generalize w.alloc (.cells (wv xs).toArray 25 fr) = W at h
  refine ⟨_, cap, rfl, fun j x hj => ⟨w.heap.size, 0, rfl, w_lt_get h, ?_⟩⟩
  rw [Nat.zero_add]
  simp only [World.cell?, h]
  simp [wv, hj]
theorem wcap_of {w : World} {B n cap : Nat} {ao : Option Addr} {xs : List Value} (h : w.ownsRow B 25 1 (.slice ao n cap) n xs) : n ≤ cap ∧ (ao = none → cap = 0) := by
  rcases h.2 with ⟨e, h0⟩ | ⟨g, c, cur, e, _, _, hn, _⟩
  · injection e with e1 e2 e3
    subst e1 e3
    exact ⟨by omega, fun _ => rfl⟩
  · injection e with e1 e2 e3
    subst e1 e3
    exact ⟨hn, fun h => by cases h⟩

theorem wv_len1 (l : List Nat) : (wv l).length = l.length := by simp [wv]
theorem wown_alloc {w : World} {B n : Nat} {v : Value} {xs : List Value} (h : w.ownsRow B 25 1 v n xs) (o : Obj) : (w.alloc o).ownsRow B 25 1 v n xs := wown_keep h fun k hk => Below.heap_alloc _ _ _ (h.lt k hk).2
theorem make_words (n : Nat) (hn : n * 4 ≤ 140737488355328) (w : World) : (Instr.makeSlice 30 (.int .i64 (n : Int)) (.int .i64 (n : Int))).run Tryd.prog w = .ok (.slice (some ⟨w.heap.size, 0, none⟩) n n) (w.alloc (.cells (wv (List.replicate n 0)).toArray 25)) := by
  obtain ⟨i0, hi, hz0, hz1, hz2⟩ := infoW
  have h := run_make (P := Tryd.prog) w 30 25 i0 (.int .u32 0) Tryd.underlying30 hi hz0 .i64 .i64 (n : Int) (n : Int) (by omega) (by omega) (by rw [hz2]; omega) (by omega)
  have e1 : (n : Int).toNat = n := by omega
  rw [h, hz1, e1, Nat.mul_one]
  have e2 : madeCells (Value.int .u32 0).cells n = (wv (List.replicate n 0)).toArray := by
    apply Array.ext
    · simp [madeCells, wv]
    · intro i h1 h2
      simp [madeCells, wv, Value.cells, Nat.mod_one]
  rw [e2]
theorem wown_new (w : World) (xs : List Nat) (B : Nat) (hB : B ≤ w.heap.size) (hx : xs.length ≤ maxLen) : (w.alloc (.cells (wv xs).toArray 25)).ownsRow B 25 1 (.slice (some ⟨w.heap.size, 0, none⟩) xs.length xs.length) xs.length (wv xs) := by
  refine ⟨wv_len xs, .inr ⟨w.heap.size, xs.length, (wv xs).toArray, rfl, hB, by show (w.heap.push _)[w.heap.size]? = _; simp, Nat.le_refl _, hx, by rw [List.size_toArray, wv_len], ?_⟩⟩
  rw [← wv_len xs]
  simp
end Go.Proofs.YtemdocnhdnhliabDoor
