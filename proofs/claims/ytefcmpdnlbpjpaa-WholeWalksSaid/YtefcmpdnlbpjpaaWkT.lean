/- viaductref02.TwinInts, viaductref05.Twin and the law's own 'to': arrays copied into new memory. -/
import Derived.Test.YtefcmpdnlbpjpaaRefBu
import Derived.Test.YtefcmpdnlbpjpaaCsrDc
namespace Go.Proofs.Ytefcmpdnlbpjpaa
open Go.RowKit Go.Extern

attribute [local go_sem] Oper.semAt_some

theorem tw_more {l : List Int} {i : Nat} {x : Int} (h : l[i]? = some x) : l.take (i + 1) = l.take i ++ [x] := by
  rw [List.take_add_one, h]; rfl
theorem tw_base {w : World} {B B' n : Nat} {v : Value} {xs : List Value} (h : w.ownsRow B' 3 1 v n xs) (hb : B ≤ B') : w.ownsRow B 3 1 v n xs := by
  obtain ⟨h1, h2⟩ := h
  refine ⟨h1, ?_⟩
  rcases h2 with h2 | ⟨g, cap, cur, e, hg, r⟩
  · exact Or.inl h2
  · exact Or.inr ⟨g, cap, cur, e, by omega, r⟩
theorem tw_cell (w : World) (v : Value) : ∀ j u, [v][j]? = some u → (w.alloc (.cells #[v] 3)).cell? ((⟨w.heap.size, 0, none⟩ : Addr).add j) = some u := by
  intro j u hj
  have h := heap_new w (.cells #[v] 3)
  generalize w.alloc (.cells #[v] 3) = W at h
  rcases j with _ | j
  · cases hj
    simp [Addr.add, World.cell?, h]
  · simp at hj
theorem ibelow_grown {w0 w w' : World} {base n : Nat} {xs : List Value} {v : Value} (hb : Below base w0 w) (h : w.ownsRow base 3 1 v n xs) (hg : w.grownBy w' v.ownBlock) (hs : base ≤ w.heap.size) : Below base w0 w' :=
  hb.trans ⟨hg.os, hg.tape, hg.output, hg.size, fun j hj => hg.block j (Nat.lt_of_lt_of_le hj hs) (fun e => by have := (h.lt j e.symm).1; omega)⟩
theorem iown_below {w w' : World} {B n : Nat} {v : Value} {xs : List Value} (h : w.ownsRow B 3 1 v n xs) (hb : Below w.heap.size w w') : w'.ownsRow B 3 1 v n xs := iown_keep h fun k hk => hb.block _ (h.lt k hk).2

set_option maxRecDepth 100000 in
set_option maxHeartbeats 4000000 in
theorem twinInts_calls (lo : Option Addr) (lc : Nat) (l : List Int) (w : World) (hl : HasInts w (.slice lo l.length lc) l) (hm : l.length * 8 ≤ 140737488351232) :
    Calls Try.prog 10 #[.slice lo l.length lc] w fun e w' => ∃ mo mc, e = .returned (.slice mo l.length mc) ∧ w'.ownsRow w.heap.size 3 1 (.slice mo l.length mc) l.length (iv l) ∧ Below w.heap.size w w' := by
  obtain ⟨i0, hi, hz0, hz1, hz2⟩ : ∃ i, Try.prog.info? 3 = some i ∧ i.zero = some (.int .i64 0) ∧ i.size = 1 ∧ i.bytes = 8 := by
    have h := infoJ
    cases hi : Try.prog.info? 3 with
    | none => rw [hi] at h; cases h
    | some i => rw [hi] at h; simp at h; exact ⟨i, rfl, h.1, h.2.1, h.2.2⟩
  have HL : Hid (HasInts w (.slice lo l.length lc) l) := hl
  clear hl
  go_enter Try.func10, Try.ntmps10
  go_wp2_with fail
  go_loopw [3, 8] (fun mv nv wr => ∃ (k : Nat) (so : Option Addr) (sc : Nat), k ≤ l.length ∧ nv = .int .i64 k ∧ mv = .slice so k sc ∧ wr.ownsRow w.heap.size 3 1 (.slice so k sc) k (iv (l.take k)) ∧ Below w.heap.size w wr) (fun _ nv _ => l.length - (intOf nv).toNat)
  case atStart => exact ⟨0, none, 0, Nat.zero_le _, rfl, rfl, World.ownsRow_nil _ _ _ _, Below.refl _ _⟩
  case round =>
    obtain ⟨k, so, sc, hk, rfl, rfl, hO, hb⟩ := hrel
    have HO : Hid (type_of% hO) := hO
    have HB : Hid (type_of% hb) := hb
    by_cases hlt : k < l.length
    · obtain ⟨a, ha⟩ : ∃ a, l[k]? = some a := ⟨l[k], List.getElem?_eq_getElem hlt⟩
      obtain ⟨b, off, hlo, hbl, q0⟩ := HL.out.at ha
      subst hlo
      have c0 := (hb.cell (p := ⟨b, off + k, none⟩) hbl).trans q0
      have cl : b < wr.heap.size := Nat.lt_of_lt_of_le hbl hb.size
      have HT1 : Hid (l.take (k + 1) = l.take k ++ [a]) := tw_more ha
      have hws := hb.size
      have i1 : (k : Int) < (l.length : Int) := by omega
      have i2 : (0 : Int) ≤ (k : Int) := by omega
      clear q0 ha hO hb hbl
      go_wp2_with (at_builtin; refine wpList_append_own _ rfl _ _ 25 rfl w.heap.size 3 i0 (.int .i64 0) 1 8 Try.underlying25 hi hz0 hz1 hz2 rfl (by decide) (.slice so k sc) k (iv (l.take k)) rfl (iown_below HO.out ((Below.refl _ wr).alloc (Nat.le_refl _) _)) ⟨wr.heap.size, 0, none⟩ 1 1 [.int .i64 a] rfl rfl (tw_cell wr (.int .i64 a)) (fun u hu => by simp at hu; subst hu; rfl) (by unfold maxLen; omega) (by omega) (by simp; omega) ?_; intro v5 w5 hown5 hgr5 _; have H5 : Hid (w5.ownsRow w.heap.size 3 1 v5 (k + 1) (iv (l.take (k + 1))) ∧ Below w.heap.size w w5) := (by refine ⟨?_, ibelow_grown (HB.out.alloc hws _) (iown_below HO.out ((Below.refl _ wr).alloc (Nat.le_refl _) _)) hgr5 (by simp; omega)⟩; rw [HT1.out, iv_append]; exact hown5); clear hown5 hgr5)
      obtain ⟨po, pc, hv5⟩ := iown_slice H5.out.1
      subst hv5
      go_roundw
      case rel => exact ⟨k + 1, po, pc, by omega, by go_num, rfl, H5.out.1, H5.out.2⟩
      case measure => simp [intOf]; omega
    · obtain rfl : k = l.length := by omega
      have H6 : Hid (wr.ownsRow w.heap.size 3 1 (.slice so l.length sc) l.length (iv l)) := by
        have h := HO.out
        rw [List.take_length] at h
        exact h
      clear hO hb
      go_wp2
      go_ret
      exact ⟨so, sc, rfl, H6.out, HB.out⟩

/-- three rows in memory of their own. -/
def Own3 (B : Nat) (w : World) (F T W : List Int) (fv tv wv : Value) : Prop := w.ownsRow B 3 1 fv F.length (iv F) ∧ w.ownsRow B 3 1 tv T.length (iv T) ∧ w.ownsRow B 3 1 wv W.length (iv W)
theorem Own3.keep {B : Nat} {w w' : World} {F T W : List Int} {fv tv wv : Value} (h : Own3 B w F T W fv tv wv) (hb : Below w.heap.size w w') : Own3 B w' F T W fv tv wv := ⟨iown_below h.1 hb, iown_below h.2.1 hb, iown_below h.2.2 hb⟩
theorem Own3.far {B b : Nat} {w w' : World} {F T W : List Int} {fv tv wv : Value} {c : Array Value} {Ty : TypeId} (h : Own3 B w F T W fv tv wv) (hb : w.heap[b]? = some (.cells c Ty)) (hT : Ty ≠ 3) (hk : ∀ g, g ≠ b → w'.heap[g]? = w.heap[g]?) : Own3 B w' F T W fv tv wv :=
  ⟨iown_keep h.1 fun k hk' => hk k fun e => iown_not_box h.1 hb hT (by rw [hk', e]), iown_keep h.2.1 fun k hk' => hk k fun e => iown_not_box h.2.1 hb hT (by rw [hk', e]), iown_keep h.2.2 fun k hk' => hk k fun e => iown_not_box h.2.2 hb hT (by rw [hk', e])⟩
theorem Own3.base {B B' : Nat} {w : World} {F T W : List Int} {fv tv wv : Value} (h : Own3 B' w F T W fv tv wv) (hb : B ≤ B') : Own3 B w F T W fv tv wv := ⟨tw_base h.1 hb, tw_base h.2.1 hb, tw_base h.2.2 hb⟩
/-- what a copy answers. -/
def TwAns (w : World) (F T W : List Int) (e : Ending) (w' : World) : Prop := ∃ fo fc uo tc wo wc, e = .returned (.agg #[.slice fo F.length fc, .slice uo T.length tc, .slice wo W.length wc]) ∧ Own3 w.heap.size w' F T W (.slice fo F.length fc) (.slice uo T.length tc) (.slice wo W.length wc) ∧ Below w.heap.size w w'

section
variable (fo uo wo : Option Addr) (fc tc wc : Nat) (F T W : List Int) (w : World)
end
end Go.Proofs.Ytefcmpdnlbpjpaa
