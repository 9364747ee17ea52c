/- rows.at; the heap's least rank; lists of what is seen. -/
import Derived.Test.YtepkogijignmlabCbB
import Derived.Test.YtepkogijignmlabHsA
import Derived.Laws.OwnMore
namespace Go.Proofs.Ytepkogijignmlab.Cb
open Go.RowKit Go.Extern Go.Shelf Hi

attribute [local go_sem] Oper.semAt_some

theorem ls_cut {w : World} {lo so : Option Addr} {lc : Nat} {F : List Nat} {Ls : List Lk} {r : Nat} (hF : FOk F Ls.length) (hr : r + 1 < F.length) (hls : HasLs w (.slice lo Ls.length lc) Ls) (hso : nth F r < nth F (r + 1) → ∀ b off, lo = some ⟨b, off, none⟩ → so = some ⟨b, off + nth F r * 4, none⟩) :
    (rowL F Ls r).length = nth F (r + 1) - nth F r ∧ HasLs w (.slice so (nth F (r + 1) - nth F r) (lc - nth F r)) (rowL F Ls r) := by
  have h1 := hF.atmost (a := r + 1) hr
  have h2 := hF.le r hr
  have hcap := hls.cap
  have hl : (rowL F Ls r).length = nth F (r + 1) - nth F r := by
    unfold rowL
    rw [List.length_take, List.length_drop]
    omega
  refine ⟨hl, so, lc - nth F r, by rw [hl], by rw [hl]; omega, fun j l hj => ?_⟩
  have hjl := (List.getElem?_eq_some_iff.1 hj).1
  rw [hl] at hjl
  unfold rowL at hj
  rw [List.getElem?_take, if_pos hjl, List.getElem?_drop] at hj
  obtain ⟨hok, b, off, e1, hb, g0, g1, g2, g3⟩ := hls.at hj
  refine ⟨hok, b, off + nth F r * 4, hso (by omega) b off e1, hb, ?_, ?_, ?_, ?_⟩
  · rw [show off + nth F r * 4 + j * 4 = off + (nth F r + j) * 4 by omega]; exact g0
  · rw [show off + nth F r * 4 + j * 4 + 1 = off + (nth F r + j) * 4 + 1 by omega]; exact g1
  · rw [show off + nth F r * 4 + j * 4 + 2 = off + (nth F r + j) * 4 + 2 by omega]; exact g2
  · rw [show off + nth F r * 4 + j * 4 + 3 = off + (nth F r + j) * 4 + 3 by omega]; exact g3

set_option maxRecDepth 100000 in
set_option maxHeartbeats 4000000 in
theorem at_calls (fo lo : Option Addr) (fc lc : Nat) (F : List Nat) (Ls : List Lk) (r : Nat) (w : World) (hF : FOk F Ls.length) (hr : r + 1 < F.length) (hn : F.length ≤ 65537) (hfs : HasWs w (.slice fo F.length fc) F) (hls : HasLs w (.slice lo Ls.length lc) Ls) :
    Calls Try.prog 44 #[.agg #[.slice fo F.length fc, .slice lo Ls.length lc], .int .u32 (r : Int)] w fun e w' => ∃ so c, e = .returned (.slice so (rowL F Ls r).length c) ∧ (∀ wx, HasLs wx (.slice lo Ls.length lc) Ls → HasLs wx (.slice so (rowL F Ls r).length c) (rowL F Ls r)) ∧ Below w.heap.size w w' := by
  obtain ⟨fb, foff, e1, _, hc⟩ := hfs.cells (by omega)
  subst e1
  have sx := hfs.small r
  have sy := hfs.small (r + 1)
  have hxy := hF.le r hr
  have hyL := hF.atmost (a := r + 1) hr
  have hcapL := hls.cap
  obtain ⟨z, hz⟩ : ∃ z, w.heap.size = z := ⟨_, rfl⟩
  obtain ⟨W0, hW0⟩ : ∃ W0, w.alloc (.cells #[.slice (some ⟨fb, foff, none⟩) F.length fc, .slice lo Ls.length lc] 89) = W0 := ⟨_, rfl⟩
  have hB : Below w.heap.size w W0 := by rw [← hW0]; exact (Below.refl _ _).alloc (Nat.le_refl _) _
  have g1 : W0.heap[z]? = some (.cells #[.slice (some ⟨fb, foff, none⟩) F.length fc, .slice lo Ls.length lc] 89) := by rw [← hW0, ← hz]; exact heap_newW _ _
  have hfs0 := hfs.keep hB
  obtain ⟨fb', foff', e2, _, hc0⟩ := hfs0.cells (by omega)
  cases e2
  have ca := hc0 r (by omega)
  have cb := hc0 (r + 1) (by omega)
  obtain ⟨d0, d1⟩ : W0.cell? ⟨z, 0, none⟩ = some (.slice (some ⟨fb, foff, none⟩) F.length fc) ∧ W0.cell? ⟨z, 1, none⟩ = some (.slice lo Ls.length lc) := by simp [World.cell?, g1]
  obtain ⟨so, hso, hcut⟩ := cut_lks lo Ls.length lc (nth F r) (nth F (r + 1)) hxy (by omega)
  have HE : Hid (∀ wx, Below W0.heap.size W0 wx → (rowL F Ls r).length = nth F (r + 1) - nth F r ∧ (∀ wy, HasLs wy (.slice lo Ls.length lc) Ls → HasLs wy (.slice so (nth F (r + 1) - nth F r) (lc - nth F r)) (rowL F Ls r)) ∧ Below w.heap.size w wx) := fun wx hx => by
    have hb2 : Below w.heap.size w wx := hB.trans (hx.mono hB.size)
    have g := ls_cut hF hr (hls.keep hb2) hso
    exact ⟨g.1, fun wy hy => (ls_cut hF hr hy hso).2, hb2⟩
  have HW0 : Hid (w.alloc (.cells #[.slice (some ⟨fb, foff, none⟩) F.length fc, .slice lo Ls.length lc] 89) = W0) := hW0
  obtain ⟨N, hN⟩ : ∃ N, F.length = N := ⟨_, rfl⟩
  have r1 : (r : Int) < (N : Int) := by omega
  have r2 : (r : Int) + 1 < (N : Int) := by omega
  have x1 : IntKind.u32.wrap ((r : Int) + 1) = (r : Int) + 1 := by rw [IntKind.wrap_u32]; omega
  obtain ⟨x, hx⟩ : ∃ x, nth F r = x := ⟨_, rfl⟩
  obtain ⟨y, hy⟩ : ∃ y, nth F (r + 1) = y := ⟨_, rfl⟩
  rw [hx, hy] at hcut HE
  rw [hx] at ca
  rw [hy] at cb
  rw [hN] at d0 HW0
  rw [hN]
  clear hso hfs hls hF hB g1 hc hc0 hfs0 sx sy hxy hyL hcapL hx hy hN hW0
  go_enter Try.func44, Try.ntmps44
  go_upto_region 1 with fail
  rw [HW0.out]
  go_quiet (fail)
  go_wp2
  go_ret
  have hq : Below W0.heap.size W0 (W0.drewN nq) := ⟨rfl, rfl, rfl, Nat.le_refl _, fun _ _ => rfl⟩
  obtain ⟨a1, a2, a3⟩ := HE.out _ hq
  exact ⟨so, lc - x, by rw [a1]; rfl, by rw [a1]; exact a2, a3⟩

/-- the least rank that waits is taken out. -/
theorem waits_pop {vs : List (Option Int)} {r x : Nat} (hr : r ≤ x) (hn : ∀ y, r ≤ y → y < x → waits vs r (y : Int) = none) : Hp.upd (waits vs r) x none = waits vs (x + 1) := by
  funext z
  unfold Hp.upd
  by_cases e : z = (x : Int)
  · subst e
    rw [if_pos rfl]
    unfold waits
    rw [Int.toNat_natCast]
    split
    · rw [if_neg (by omega)]
    · rfl
  · rw [if_neg e]
    rcases Int.lt_or_le z (x : Int) with h1 | h1
    · have e1 : waits vs (x + 1) z = none := by
        unfold waits
        split
        · rw [if_neg (by omega)]
        · rfl
      rw [e1]
      rcases Int.lt_or_le z (r : Int) with h2 | h2
      · unfold waits
        split
        · rw [if_neg (by omega)]
        · rfl
      · obtain ⟨y, rfl⟩ : ∃ y : Nat, z = (y : Int) := ⟨z.toNat, by omega⟩
        exact hn y (by omega) (by omega)
    · unfold waits
      split
      · rw [if_pos (by omega), if_pos (by omega)]
      · rfl
theorem waits_unk {vs : List (Option Int)} {r y : Nat} (hr : r ≤ y) (h : waits vs r (y : Int) = none) : vs[y]? = some none ∨ vs[y]? = none := by
  rcases waits_none h with g | g
  · omega
  · exact g
variable {B : Nat} {w w' : World} {n : Nat} {L : CP} {sv sv' : Value} {vs vs' : List (Option Int)} {f f' : Int → Option Int}
/-- taken out, the least rank that waits; or none waits. -/
theorem pop_calls (r : Nat) (h : Clm B w n L sv vs (waits vs r)) (hB : B ≤ w.heap.size) :
    Calls Try.prog 42 #[.pointer (some ⟨L.hb, 0, none⟩)] w fun e w' => ∃ sv', Fx L sv sv' w w' ∧
      ((e = .returned (.tuple #[.int .u32 0, .int .u64 0, .bool false]) ∧ (∀ y, r ≤ y → y < n → vs[y]? = some none ∨ vs[y]? = none) ∧ Clm B w' n L sv' vs (waits vs r)) ∨
       (∃ x : Nat, e = .returned (.tuple #[.int .u32 (x : Int), .int .u64 (x : Int), .bool true]) ∧ r ≤ x ∧ x < n ∧ (∃ d, vs[x]? = some (some d)) ∧ (∀ y, r ≤ y → y < x → vs[y]? = some none ∨ vs[y]? = none) ∧ Clm B w' n L sv' vs (waits vs (x + 1)))) := by
  by_cases hall : ∀ d : Nat, d < n → waits vs r (d : Int) = none
  · refine (Hp.pop_none h.hp hall).mono ?_
    rintro e w' ⟨rfl, rfl⟩
    exact ⟨sv, Fx.of_below (Below.refl _ _), Or.inl ⟨rfl, fun y h1 h2 => waits_unk h1 (hall y h2), h⟩⟩
  · obtain ⟨d0, hd0, hf⟩ : ∃ d0 : Nat, d0 < n ∧ waits vs r (d0 : Int) ≠ none := by
      by_cases hex : ∃ d0 : Nat, d0 < n ∧ waits vs r (d0 : Int) ≠ none
      · exact hex
      · exact absurd (fun d hd => by
          by_cases e : waits vs r (d : Int) = none
          · exact e
          · exact absurd ⟨d, hd, e⟩ hex) hall
    refine (Hp.pop_some h.hp d0 hd0 hf).mono ?_
    rintro e w' ⟨x, k, rfl, ⟨hx, hfx, hleast⟩, sv', hH, hF⟩
    obtain ⟨rfl, hrx, d, hd⟩ := waits_some hfx
    have hlow : ∀ y, r ≤ y → y < x → waits vs r (y : Int) = none := fun y h1 h2 => by
      cases e : waits vs r (y : Int) with
      | none => rfl
      | some j =>
        obtain ⟨rfl, _, _⟩ := waits_some e
        have := hleast y _ (by omega) e
        unfold Hp.ltT at this
        simp at this
        omega
    rw [waits_pop hrx hlow] at hH
    obtain ⟨p, q⟩ := h.heaped hH hF hB
    exact ⟨sv', q, Or.inr ⟨x, rfl, hrx, hx, ⟨d, hd⟩, fun y h1 h2 => waits_unk h1 (hlow y h1 h2), p⟩⟩

/-- what is seen, in cells. -/
def snv (l : List (Nat × Int × Bool)) : List Value := l.flatMap fun x => [.int .i64 (x.1 : Int), .int .u64 x.2.1, .bool x.2.2]
theorem snv_append (l r : List (Nat × Int × Bool)) : snv (l ++ r) = snv l ++ snv r := by simp [snv]
theorem snv_one (l : List (Nat × Int × Bool)) : ∀ u ∈ snv l, u.oneCell' = true := by
  intro u hu
  unfold snv at hu
  obtain ⟨x, _, hx⟩ := List.mem_flatMap.1 hu
  simp at hx
  rcases hx with rfl | rfl | rfl <;> rfl
theorem infoSn : (Try.prog.info? 91).map (fun i => (i.zero, i.size, i.bytes)) = some (some (.agg #[.int .i64 0, .int .u64 0, .bool false]), 3, 24) := by kernel_rfl
/-- a block of another kind is none of the climber's. -/
theorem Clm.off (h : Clm B w n L sv vs f) {k : Nat} {c : Array Value} {T : TypeId} (hk : w.heap[k]? = some (.cells c T)) (hT : T = 91 ∨ T = 89 ∨ T = 45 ∨ T = 25) : ¬ L.Own sv k := by
  obtain ⟨age, held, ps, hm, _⟩ := h.st
  obtain ⟨ps', wh, hm', _⟩ := h.hp
  rintro (rfl | rfl | rfl | rfl | rfl | o)
  · rw [h.box] at hk; cases hk; revert hT; decide
  · rw [hm.box] at hk; cases hk; revert hT; decide
  · rw [hm.row] at hk; cases hk; revert hT; decide
  · rw [hm'.box] at hk; cases hk; revert hT; decide
  · rw [hm'.whr] at hk; cases hk; revert hT; decide
  · rcases hm'.row.2 with ⟨e, _⟩ | ⟨g, cap, cur, e, _, hh, _⟩
    · rw [e] at o; cases o
    · rw [e] at o
      simp [Value.ownBlock] at o
      subst o
      rw [hh] at hk; cases hk; revert hT; decide
theorem Clm.offRow (h : Clm B w n L sv vs f) {B' m : Nat} {ov : Value} {xs : List Value} (ho : w.ownsRow B' 91 3 ov m xs) : ∀ k, ov.ownBlock = some k → ¬ L.Own sv k := by
  intro k e
  rcases ho.2 with ⟨e1, _⟩ | ⟨g, cap, cur, e1, _, hh, _⟩
  · rw [e1] at e; cases e
  · rw [e1] at e
    simp [Value.ownBlock] at e
    subst e
    exact h.off hh (Or.inl rfl)
/-- what a climber's calls leave of a list, and of a box. -/
theorem Fx.row (h : Clm B w n L sv vs f) (g : Fx L sv sv' w w') {B' m : Nat} {ov : Value} {xs : List Value} (ho : w.ownsRow B' 91 3 ov m xs) : w'.ownsRow B' 91 3 ov m xs :=
  own_keep ho fun k _ e hh => (g.block k (some_lt hh) (h.offRow ho k e)).trans hh
theorem Fx.box (h : Clm B w n L sv vs f) (g : Fx L sv sv' w w') {k : Nat} {c : Array Value} (hk : w.heap[k]? = some (.cells c 89)) : w'.heap[k]? = some (.cells c 89) :=
  (g.block k (some_lt hk) (h.off hk (Or.inr (Or.inl rfl)))).trans hk
/-- a list grows: the climber stays. -/
theorem Clm.grown (h : Clm B w n L sv vs f) {B' m : Nat} {ov : Value} {xs : List Value} (ho : w.ownsRow B' 91 3 ov m xs) (hg : w.grownBy w' ov.ownBlock) : Clm B w' n L sv vs f :=
  h.keep fun k hk ho' => hg.block k hk (fun e => h.offRow ho k e.symm ho')
end Go.Proofs.Ytepkogijignmlab.Cb
