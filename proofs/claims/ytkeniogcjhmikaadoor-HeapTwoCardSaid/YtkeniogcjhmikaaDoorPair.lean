/- One call, at the program's heap and at the reference's lists: the same answer, and what they hold is alike again. -/
import Derived.Test.YtkeniogcjhmikaaDoorRefClear
namespace Go.Proofs.YtkeniogcjhmikaaDoor
open Go.RowKit

theorem nodup_le : ∀ (A B : List Nat), A.Nodup → (∀ x ∈ A, x ∈ B) → A.length ≤ B.length
  | [], B, _, _ => Nat.zero_le _
  | a :: r, B, hn, h => by
    have hn' := List.nodup_cons.1 hn
    have ha := h a (by simp)
    have h1 := nodup_le r (B.erase a) hn'.2 (fun x hx => (List.mem_erase_of_ne (fun e : x = a => hn'.1 (by rw [← e]; exact hx))).2 (h x (by simp [hx])))
    rw [List.length_erase_of_mem ha] at h1
    have : 0 < B.length := List.length_pos_of_mem ha
    simp
    omega
/-- the places of what is in. -/
def idx : List Bool → Nat → List Nat
  | [], _ => []
  | b :: r, i => if b then i :: idx r (i + 1) else idx r (i + 1)
theorem idx_len : ∀ (bs : List Bool) (i : Nat), (idx bs i).length = cnt bs
  | [], _ => rfl
  | true :: r, i => by simp [idx, cnt, idx_len r (i + 1)]; omega
  | false :: r, i => by simp [idx, cnt, idx_len r (i + 1)]
theorem idx_mem : ∀ (bs : List Bool) (i x : Nat), x ∈ idx bs i ↔ i ≤ x ∧ bs[x - i]? = some true
  | [], i, x => by simp [idx]
  | b :: r, i, x => by
    have ih := idx_mem r (i + 1) x
    have hcons : x ∈ idx (b :: r) i ↔ (b = true ∧ x = i) ∨ x ∈ idx r (i + 1) := by
      cases b <;> simp [idx]
    rw [hcons, ih]
    rcases Nat.lt_trichotomy x i with h | h | h
    · constructor
      · rintro (⟨_, e⟩ | ⟨e, _⟩) <;> omega
      · rintro ⟨e, _⟩; omega
    · subst h
      rw [Nat.sub_self]
      constructor
      · rintro (⟨e, _⟩ | ⟨e, _⟩)
        · exact ⟨Nat.le_refl _, by rw [e]; rfl⟩
        · omega
      · rintro ⟨_, e⟩
        exact Or.inl ⟨by simpa using e, rfl⟩
    · rw [show x - i = (x - (i + 1)) + 1 by omega, List.getElem?_cons_succ]
      constructor
      · rintro (⟨_, e⟩ | ⟨_, e⟩)
        · omega
        · exact ⟨by omega, e⟩
      · rintro ⟨_, e⟩
        exact Or.inr ⟨by omega, e⟩
theorem idx_nodup : ∀ (bs : List Bool) (i : Nat), (idx bs i).Nodup
  | [], _ => List.nodup_nil
  | true :: r, i => by
    simp only [idx, if_true]
    exact List.nodup_cons.2 ⟨fun h => by have := ((idx_mem r (i + 1) i).1 h).1; omega, idx_nodup r (i + 1)⟩
  | false :: r, i => by simp only [idx, Bool.false_eq_true, if_false]; exact idx_nodup r (i + 1)

theorem ids_nodup {ps : List Th} {wh : List Int} {f : Int → Option Int} (h : Heap ps wh f) : (ps.map fun t => t.2.toNat).Nodup := by
  rw [List.Nodup, List.pairwise_iff_getElem]
  intro i j hi hj hij e
  simp only [List.length_map] at hi hj
  simp only [List.getElem_map] at e
  obtain ⟨a0, a1, a2⟩ := h.idr i ps[i] (List.getElem?_eq_getElem hi)
  obtain ⟨b0, b1, b2⟩ := h.idr j ps[j] (List.getElem?_eq_getElem hj)
  rw [e, b2] at a2
  have := Option.some.inj a2
  omega
/-- there are as many things in the one as in the other. -/
theorem count_same {ps : List Th} {wh : List Int} {f : Int → Option Int} {n : Nat} {ls : List Int} {bs : List Bool} (h : Heap ps wh f) (hw : wh.length = n) (hb : bs.length = n) (hR : Rel n f ls bs) : ps.length = cnt bs := by
  have hin : ∀ d, d < n → ((∃ (i : Nat) (y : Th), ps[i]? = some y ∧ y.2 = (d : Int)) ↔ bs[d]? = some true) := fun d hd => by
    obtain ⟨b, hbd⟩ : ∃ b, bs[d]? = some b := ⟨bs[d]'(by omega), List.getElem?_eq_getElem _⟩
    constructor
    · rintro ⟨i, y, hy, e⟩
      obtain ⟨a0, a1, a2⟩ := h.idr i y hy
      obtain ⟨z, _, _, hz⟩ := h.there (d := d) (k := i) (by rw [← a2]; congr 1; omega)
      cases b with
      | true => exact hbd
      | false => rw [(hR d hd).2 hbd] at hz; cases hz
    · intro ht
      obtain ⟨k, _, hk⟩ := (hR d hd).1 ht
      rcases h.back d (by omega) with ⟨_, h0⟩ | ⟨i, y, _, hy, e, _⟩
      · rw [h0] at hk; cases hk
      · exact ⟨i, y, hy, e⟩
  have h1 := nodup_le (ps.map fun t => t.2.toNat) (idx bs 0) (ids_nodup h) (fun x hx => by
    obtain ⟨t, ht, rfl⟩ := List.mem_map.1 hx
    obtain ⟨i, hi, e⟩ := List.getElem_of_mem ht
    obtain ⟨a0, a1, _⟩ := h.idr i ps[i] (List.getElem?_eq_getElem hi)
    rw [e] at a0 a1
    refine (idx_mem bs 0 _).2 ⟨Nat.zero_le _, ?_⟩
    rw [Nat.sub_zero]
    exact (hin _ (by omega)).1 ⟨i, t, by rw [List.getElem?_eq_getElem hi, e], by omega⟩)
  have h2 := nodup_le (idx bs 0) (ps.map fun t => t.2.toNat) (idx_nodup bs 0) (fun x hx => by
    obtain ⟨_, hx'⟩ := (idx_mem bs 0 x).1 hx
    rw [Nat.sub_zero] at hx'
    have hlt := (List.getElem?_eq_some_iff.1 hx').1
    obtain ⟨i, y, hy, e⟩ := (hin x (by omega)).2 hx'
    exact List.mem_map.2 ⟨y, List.mem_of_getElem? hy, (by omega : y.2.toNat = x)⟩)
  rw [idx_len, List.length_map] at h1 h2
  omega

theorem Least.only {n : Nat} {f : Int → Option Int} {d d' : Nat} {k k' : Int} (h : Least n f d k) (h' : Least n f d' k') : d' = d ∧ k' = k := by
  have h1 := h.2.2 d' k' h'.1 h'.2.1
  have h2 := h'.2.2 d k h.1 h.2.1
  unfold ltT at h1 h2
  simp only at h1 h2
  omega
theorem IsHeap.least {w : World} {hb wb n : Nat} {sv : Value} {f : Int → Option Int} (h : IsHeap w hb wb n sv f) (d0 : Nat) (hd0 : d0 < n) (hf : f d0 ≠ none) : ∃ (d : Nat) (k : Int), Least n f d k := by
  obtain ⟨ps, wh, hM, hH⟩ := h
  have hlen := hM.len
  cases hps : ps with
  | nil => exact absurd (hH.empty hps d0 (by omega)) hf
  | cons t r =>
    have ht0 : ps[0]? = some t := by rw [hps]; rfl
    have ht := hH.top ht0
    obtain ⟨tk, ti⟩ := t
    obtain ⟨d, hd⟩ : ∃ d : Nat, ti = d := ⟨ti.toNat, by have := ht.2.1.1; simp only at this; omega⟩
    subst hd
    exact ⟨d, tk, by have := ht.2.1.2; simp only at this; omega, ht.1, fun e j he hj => ht.2.2 e j (by omega) hj⟩
/-- what the reference looks up is the least. -/
theorem leastTo_none {n : Nat} {f : Int → Option Int} {ls : List Int} {bs : List Bool} (hR : Rel n f ls bs) (hz : ∀ d : Nat, d < n → f d = none) : ∀ a, LeastTo ls bs n a → a = -1 := by
  rintro a (⟨h, _⟩ | ⟨p, x, _, h2, h3, _⟩)
  · exact h
  · obtain ⟨k, _, hk⟩ := (hR p h2).1 h3
    rw [hz p h2] at hk
    cases hk
theorem leastTo_some {n : Nat} {f : Int → Option Int} {ls : List Int} {bs : List Bool} {d : Nat} {k : Int} (hb : bs.length = n) (hR : Rel n f ls bs) (hl : Least n f d k) : ls[d]? = some k ∧ bs[d]? = some true ∧ ∀ a, LeastTo ls bs n a → a = (d : Int) := by
  have hin : ∀ e j, e < n → f (e : Nat) = some j → bs[e]? = some true ∧ ls[e]? = some j := fun e j he hj => by
    obtain ⟨b, hbe⟩ : ∃ b, bs[e]? = some b := ⟨bs[e]'(by omega), List.getElem?_eq_getElem _⟩
    cases b with
    | false => rw [(hR e he).2 hbe] at hj; cases hj
    | true =>
      obtain ⟨x, h1, h2⟩ := (hR e he).1 hbe
      rw [hj] at h2
      cases h2
      exact ⟨hbe, h1⟩
  obtain ⟨h1, h2⟩ := hin d k hl.1 hl.2.1
  refine ⟨h2, h1, ?_⟩
  rintro a (⟨_, h⟩ | ⟨p, x, rfl, g2, g3, g4, g5⟩)
  · exact absurd h1 (h d hl.1)
  · have hp : Least n f p x := by
      refine ⟨g2, ?_, fun e j he hj => ?_⟩
      · obtain ⟨y, e1, e2⟩ := (hR p g2).1 g3
        rw [g4] at e1
        cases e1
        exact e2
      · obtain ⟨e1, e2⟩ := hin e j he hj
        exact g5 e j he e1 e2
    have := (hl.only hp).1
    omega
theorem set_back {α : Type} {l : List α} {i : Nat} {x : α} (h : l[i]? = some x) : l.set i x = l := by
  apply List.ext_getElem?
  intro j
  by_cases e : j = i
  · subst e; rw [set_same _ (List.getElem?_eq_some_iff.1 h).1, h]
  · rw [set_other _ e]

/-- both calls, and what they answer. -/
structure Both (hb wb n kb ib : Nat) (f f' : Int → Option Int) (ls ls' : List Int) (bs bs' : List Bool) (kind key : Int) (id : Nat) (a b l code : Int) (c : Bool) (ev : Value) : Prop where
  prog : ∀ wx sv, IsHeap wx hb wb n sv f → Calls Tryd.prog 11 #[.pointer (some ⟨hb, 0, none⟩), .agg #[.int .u8 kind, .int .u32 (id : Int), .int .u64 key]] wx fun e w' => e = .returned (.tuple #[.agg #[.int .u32 a, .int .u64 b, .bool c, .int .i64 l, .int .i64 0, .slice none 0 0], ev]) ∧ ∃ sv', IsHeap w' hb wb n sv' f' ∧ Fr hb wb sv sv' wx w'
  ref : ∀ wx, RM wx kb ib n ls bs → Calls Tryd.prog 12 #[.agg #[.slice (some ⟨kb, 0, none⟩) n n, .slice (some ⟨ib, 0, none⟩) n n], .agg #[.int .u8 kind, .int .u32 (id : Int), .int .u64 key]] wx fun e w' => e = .returned (.agg #[.int .u32 a, .int .u64 b, .bool c, .int .i64 l, .int .i64 code, .slice none 0 0]) ∧ RS kb ib n wx ls' bs' w'
  rel : Rel n f' ls' bs'
  err : (code = 0 ∧ ev = .nilIface) ∨ (code = 7 ∧ ev = .iface 55 (.int .i64 7))

theorem same_world {w w' : World} {hb wb n : Nat} {sv : Value} {f : Int → Option Int} (h : IsHeap w hb wb n sv f) (e : w' = w) : ∃ sv', IsHeap w' hb wb n sv' f ∧ Fr hb wb sv sv' w w' := by
  subst e
  exact ⟨sv, h, Fr.refl _ _ _ _⟩

theorem both_exists {hb wb n kb ib : Nat} {f : Int → Option Int} {ls : List Int} {bs : List Bool} {w0 : World} {sv0 : Value} (h0 : IsHeap w0 hb wb n sv0 f) (hn : n ≤ 65536) (hl : ls.length = n) (hb' : bs.length = n) (hR : Rel n f ls bs) (kind key : Int) (id : Nat) (hid : id ≤ 4294967295) :
    ∃ f' ls' bs' a b l code c ev, Both hb wb n kb ib f f' ls ls' bs bs' kind key id a b l code c ev := by
  have hin : ∀ e j, e < n → f (e : Nat) = some j → bs[e]? = some true ∧ ls[e]? = some j := fun e j he hj => by
    obtain ⟨b, hbe⟩ : ∃ b, bs[e]? = some b := ⟨bs[e]'(by omega), List.getElem?_eq_getElem _⟩
    cases b with
    | false => rw [(hR e he).2 hbe] at hj; cases hj
    | true =>
      obtain ⟨x, h1, h2⟩ := (hR e he).1 hbe
      rw [hj] at h2
      cases h2
      exact ⟨hbe, h1⟩
  have hout : ∀ e, e < n → f (e : Nat) = none → bs[e]? = some false := fun e he hj => by
    obtain ⟨b, hbe⟩ : ∃ b, bs[e]? = some b := ⟨bs[e]'(by omega), List.getElem?_eq_getElem _⟩
    cases b with
    | false => exact hbe
    | true =>
      obtain ⟨x, h1, h2⟩ := (hR e he).1 hbe
      rw [hj] at h2
      cases h2
  have hls : ∀ e, e < n → ∃ x, ls[e]? = some x := fun e he => ⟨ls[e]'(by omega), List.getElem?_eq_getElem _⟩
  rcases (show kind = 1 ∨ kind = 2 ∨ kind = 3 ∨ kind = 4 ∨ kind = 5 ∨ kind = 6 ∨ kind = 7 ∨ kind = 8 ∨ (kind < 1 ∨ 8 < kind) by omega) with hk | hk | hk | hk | hk | hk | hk | hk | hk
  · rcases Nat.lt_or_ge id n with hd | hd
    · cases hf : f (id : Int) with
      | none =>
        obtain ⟨x, hx⟩ := hls id hd
        exact ⟨_, _, _, 0, 0, 0, 0, false, .nilIface, fun wx sv h => do_push kind key id .nilIface hk h (fun wy hy => push_out hy id hd key hf), fun wx h => ref_push_new kind key id hid x hn h hk hd hx (hout id hd hf), hR.put hl hb' hd key, Or.inl ⟨rfl, rfl⟩⟩
      | some k0 =>
        obtain ⟨hbt, hx⟩ := hin id k0 hd hf
        by_cases hlt : key < k0
        · refine ⟨_, _, _, 0, 0, 0, 0, false, .nilIface, fun wx sv h => do_push kind key id .nilIface hk h (fun wy hy => push_in hy id hd key k0 hf), fun wx h => ref_push_less kind key id hid k0 hn h hk hd hx hbt hlt, ?_, Or.inl ⟨rfl, rfl⟩⟩
          rw [if_neg (by omega)]
          exact hR.put hl hb' hd key
        · refine ⟨_, _, _, 0, 0, 0, 0, false, .nilIface, fun wx sv h => do_push kind key id .nilIface hk h (fun wy hy => push_in hy id hd key k0 hf), fun wx h => ref_push_more kind key id hid k0 hn h hk hd hx hbt hlt, ?_, Or.inl ⟨rfl, rfl⟩⟩
          have e : (if k0 < key then k0 else key) = k0 := by split <;> omega
          rw [e]
          have h1 := hR.put hl hb' hd k0
          rw [set_back hx] at h1
          exact h1
    · exact ⟨f, ls, bs, 0, 0, 0, 7, false, .iface 55 (.int .i64 7), fun wx sv h => do_push kind key id _ hk h (fun wy hy => (push_far hy id hd hid key).mono fun e w' ⟨he, hw⟩ => ⟨he, same_world hy hw⟩), fun wx h => ref_far kind key id hid hn h (Or.inl hk) hd, hR, Or.inr ⟨rfl, rfl⟩⟩
  · rcases Nat.lt_or_ge id n with hd | hd
    · obtain ⟨x, hx⟩ := hls id hd
      exact ⟨_, _, _, 0, 0, 0, 0, false, .nilIface, fun wx sv h => do_set kind key id .nilIface hk h (fun wy hy => set_calls hy id hd key), fun wx h => ref_set kind key id hid x hn h hk hd hx, hR.put hl hb' hd key, Or.inl ⟨rfl, rfl⟩⟩
    · exact ⟨f, ls, bs, 0, 0, 0, 7, false, .iface 55 (.int .i64 7), fun wx sv h => do_set kind key id _ hk h (fun wy hy => (set_far hy id hd hid key).mono fun e w' ⟨he, hw⟩ => ⟨he, same_world hy hw⟩), fun wx h => ref_far kind key id hid hn h (Or.inr hk) hd, hR, Or.inr ⟨rfl, rfl⟩⟩
  · by_cases hz : ∀ d : Nat, d < n → f d = none
    · exact ⟨f, ls, bs, 0, 0, 0, 0, false, .nilIface, fun wx sv h => do_pop kind key id 0 0 false hk h (fun wy hy => (pop_none hy hz).mono fun e w' ⟨he, hw⟩ => ⟨he, same_world hy hw⟩), fun wx h => ref_pop_none kind key id hid hn h hk (leastTo_none hR hz), hR, Or.inl ⟨rfl, rfl⟩⟩
    · obtain ⟨d0, hd0⟩ := Classical.not_forall.1 hz
      obtain ⟨hd0n, hf0⟩ := Classical.not_imp.1 hd0
      obtain ⟨d, k, hL⟩ := h0.least d0 hd0n hf0
      obtain ⟨h1, h2, h3⟩ := leastTo_some hb' hR hL
      refine ⟨_, ls, _, d, k, 0, 0, true, .nilIface, fun wx sv h => do_pop (f' := upd f d none) kind key id d k true hk h (fun wy hy => (pop_some hy d0 hd0n hf0).mono ?_), fun wx h => ref_pop_some kind key id hid d k hn h hk hL.1 h1 h2 h3, hR.out hb' hL.1, Or.inl ⟨rfl, rfl⟩⟩
      rintro e w' ⟨d', k', he, hL', hs⟩
      obtain ⟨rfl, rfl⟩ := hL.only hL'
      exact ⟨he, hs⟩
  · by_cases hz : ∀ d : Nat, d < n → f d = none
    · exact ⟨f, ls, bs, 0, 0, 0, 0, false, .nilIface, fun wx sv h => do_top kind key id 0 0 false hk h (fun wy hy => (top_none hy hz).mono fun e w' ⟨he, hw⟩ => ⟨he, same_world hy hw⟩), fun wx h => ref_top_none kind key id hid hn h hk (leastTo_none hR hz), hR, Or.inl ⟨rfl, rfl⟩⟩
    · obtain ⟨d0, hd0⟩ := Classical.not_forall.1 hz
      obtain ⟨hd0n, hf0⟩ := Classical.not_imp.1 hd0
      obtain ⟨d, k, hL⟩ := h0.least d0 hd0n hf0
      obtain ⟨h1, h2, h3⟩ := leastTo_some hb' hR hL
      refine ⟨f, ls, bs, d, k, 0, 0, true, .nilIface, fun wx sv h => do_top kind key id d k true hk h (fun wy hy => (top_some hy d0 hd0n hf0).mono ?_), fun wx h => ref_top_some kind key id hid d k hn h hk hL.1 h1 h2 h3, hR, Or.inl ⟨rfl, rfl⟩⟩
      rintro e w' ⟨d', k', he, hL', hs⟩
      obtain ⟨rfl, rfl⟩ := hL.only hL'
      exact ⟨he, _, hy.below hs, Fr.of_below hs⟩
  · rcases Nat.lt_or_ge id n with hd | hd
    · cases hf : f (id : Int) with
      | none => exact ⟨f, ls, bs, 0, 0, 0, 0, false, .nilIface, fun wx sv h => do_remove kind key id false hk h (fun wy hy => (remove_out hy id hd hf).mono fun e w' ⟨he, hw⟩ => ⟨he, same_world hy hw⟩), fun wx h => ref_remove_out kind key id hid hn h hk hd (hout id hd hf), hR, Or.inl ⟨rfl, rfl⟩⟩
      | some k0 => exact ⟨_, ls, _, 0, 0, 0, 0, true, .nilIface, fun wx sv h => do_remove kind key id true hk h (fun wy hy => remove_in hy id hd k0 hf), fun wx h => ref_remove_in kind key id hid hn h hk hd (hin id k0 hd hf).1, hR.out hb' hd, Or.inl ⟨rfl, rfl⟩⟩
    · exact ⟨f, ls, bs, 0, 0, 0, 0, false, .nilIface, fun wx sv h => do_remove kind key id false hk h (fun wy hy => (remove_far hy id hd hid).mono fun e w' ⟨he, hw⟩ => ⟨he, same_world hy hw⟩), fun wx h => ref_remove_far kind key id hid hn h hk hd, hR, Or.inl ⟨rfl, rfl⟩⟩
  · rcases Nat.lt_or_ge id n with hd | hd
    · cases hf : f (id : Int) with
      | none => exact ⟨f, ls, bs, 0, 0, 0, 0, false, .nilIface, fun wx sv h => do_key kind key id 0 false hk h (fun wy hy => (key_out hy id hd hf).mono fun e w' ⟨he, hw⟩ => ⟨he, same_world hy hw⟩), fun wx h => ref_key_out kind key id hid hn h hk hd (hout id hd hf), hR, Or.inl ⟨rfl, rfl⟩⟩
      | some k0 => exact ⟨f, ls, bs, 0, k0, 0, 0, true, .nilIface, fun wx sv h => do_key kind key id k0 true hk h (fun wy hy => (key_in hy id hd k0 hf).mono fun e w' ⟨he, hw⟩ => ⟨he, same_world hy hw⟩), fun wx h => ref_key_in kind key id hid k0 hn h hk hd (hin id k0 hd hf).1 (hin id k0 hd hf).2, hR, Or.inl ⟨rfl, rfl⟩⟩
    · exact ⟨f, ls, bs, 0, 0, 0, 0, false, .nilIface, fun wx sv h => do_key kind key id 0 false hk h (fun wy hy => (key_far hy id hd hid).mono fun e w' ⟨he, hw⟩ => ⟨he, same_world hy hw⟩), fun wx h => ref_key_far kind key id hid hn h hk hd, hR, Or.inl ⟨rfl, rfl⟩⟩
  · refine ⟨f, ls, bs, 0, 0, (cnt bs : Nat), 0, false, .nilIface, fun wx sv h => do_len kind key id (cnt bs : Nat) hk h (fun wy hy => ?_), fun wx h => ref_len kind key id hid hn h hk, hR, Or.inl ⟨rfl, rfl⟩⟩
    have hy' := hy
    obtain ⟨ps, wh, hM, hH⟩ := hy
    have e := count_same hH hM.len hb' hR
    refine (len_calls hM).mono ?_
    rintro r w' ⟨he, hw⟩
    rw [e] at he
    exact ⟨he, same_world hy' hw⟩
  · exact ⟨_, ls, _, 0, 0, 0, 0, false, .nilIface, fun wx sv h => do_clear kind key id hk h (fun wy hy => clear_calls hy), fun wx h => ref_clear kind key id hid hn h hk, Rel.new n ls, Or.inl ⟨rfl, rfl⟩⟩
  · exact ⟨f, ls, bs, 0, 0, 0, 0, false, .nilIface, fun wx sv h => do_other kind key id hk h rfl, fun wx h => ref_other kind key id hid hn h hk, hR, Or.inl ⟨rfl, rfl⟩⟩
end Go.Proofs.YtkeniogcjhmikaaDoor
