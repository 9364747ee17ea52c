/- the heap's Key; the stamp's Len and All. search.finder.labels: what a finder knows, as a list. The labels of a search: those of the first nodes, and how they lie in memory. search.Bounded at right arrays and a node of theirs. -/
import Derived.Test.YtbaahjppofbdlaaGreatDoorHpA
import Derived.Test.YtbaahjppofbdlaaGreatDoorStA
import Derived.Laws.AppendOwn
import Derived.Test.YtbaahjppofbdlaaGreatDoorSpA
import Derived.Test.YtbaahjppofbdlaaGreatDoorSqT
import Derived.OwnWalk
namespace Go.Proofs.YtbaahjppofbdlaaGreatDoor.Hp
open Go.RowKit

attribute [local go_sem] Oper.semAt_some

section
variable {w : World} {hb wb n : Nat} {sv : Value} {f : Int → Option Int}

set_option maxHeartbeats 1000000 in
theorem key_out (h : IsHeap w hb wb n sv f) (d : Nat) (hd : d < n) (hf : f d = none) : Calls Tryz.prog 58 #[.pointer (some ⟨hb, 0, none⟩), .int .u32 d] w fun e w' => e = .returned (.tuple #[.int .u64 0, .bool false]) ∧ w' = w := by
  obtain ⟨ps, wh, hM, hH⟩ := h
  have h0 : wh[d]? = some 0 := by
    rcases hH.back d (by rw [hM.len]; exact hd) with ⟨h0, _⟩ | ⟨i, y, _, _, _, h1⟩
    · exact h0
    · rw [hf] at h1; cases h1
  have HP : Hid (Calls Tryz.prog 82 #[.pointer (some ⟨hb, 0, none⟩), .int .u32 d] w fun e w' => e = .returned (.tuple #[.int .i64 0, .bool false]) ∧ w' = w) := place_out hM d h0
  clear hM hH h0
  go_enter Tryz.func58, Tryz.ntmps58
  go_wp2_with fail
  refine HP.out.mono ?_
  rintro e w1 ⟨rfl, hw1⟩
  subst hw1
  go_wp2
  go_ret2
  exact ⟨rfl, rfl⟩

set_option maxHeartbeats 1000000 in
theorem key_in (h : IsHeap w hb wb n sv f) (d : Nat) (hd : d < n) (k : Int) (hf : f d = some k) : Calls Tryz.prog 58 #[.pointer (some ⟨hb, 0, none⟩), .int .u32 d] w fun e w' => e = .returned (.tuple #[.int .u64 k, .bool true]) ∧ w' = w := by
  obtain ⟨ps, wh, hM, hH⟩ := h
  have hlen := hM.len
  have hbig := hM.big
  obtain ⟨i, y, h0, hy, _, hk⟩ : ∃ (i : Nat) (y : Th), wh[d]? = some ((i : Int) + 1) ∧ ps[i]? = some y ∧ y.2 = d ∧ f d = some y.1 := by
    rcases hH.back d (by omega) with ⟨_, h1⟩ | h1
    · rw [hf] at h1; cases h1
    · exact h1
  have hil := (List.getElem?_eq_some_iff.1 hy).1
  have hfew := hH.few
  obtain ⟨yk, yd⟩ := y
  obtain rfl : k = yk := by rw [hf] at hk; exact Option.some.inj hk
  have HP : Hid (Calls Tryz.prog 82 #[.pointer (some ⟨hb, 0, none⟩), .int .u32 d] w fun e w' => e = .returned (.tuple #[.int .i64 i, .bool true]) ∧ w' = w) := place_in hM d i h0 (by omega)
  obtain ⟨c0, c1, _, _⟩ := hM.cells
  obtain ⟨g, cap, e, hc1, hc2, hgl, _, _, q0, q1, _, _⟩ := hM.thing hy
  subst e
  have b1 : (0 : Int) ≤ (i : Int) := by omega
  have b2 : (i : Int) < (ps.length : Int) := by omega
  unfold maxLen at hc2
  clear hM hH h0 hy hk hf hfew
  go_enter Tryz.func58, Tryz.ntmps58
  go_wp2_with fail
  refine HP.out.mono ?_
  rintro e w1 ⟨rfl, hw1⟩
  subst hw1
  go_wp2
  go_ret2
  exact ⟨rfl, rfl⟩
end
end Go.Proofs.YtbaahjppofbdlaaGreatDoor.Hp
namespace Go.Proofs.YtbaahjppofbdlaaGreatDoor.St
open Go.RowKit

attribute [local go_sem] Oper.semAt_some

section
variable {w : World} {sb pb n : Nat} {vs : List (Option Int)}
theorem len_calls (h : IsStamp w sb pb n vs) : Calls Tryz.prog 56 #[.pointer (some ⟨sb, 0, none⟩)] w fun e w' => e = .returned (.int .i64 (cnt vs : Nat)) ∧ w' = w := by
  obtain ⟨age, held, ps, hM, _, _, hv, rfl, _⟩ := h
  obtain ⟨c0, c1, c2, _, _, _⟩ := hM.cells
  clear hM hv
  go_enter Tryz.func56, Tryz.ntmps56
  go_wp2
  go_ret
  exact ⟨rfl, rfl⟩

end
/-- the places that are in, from k on. -/
def allB : Nat → List Bool → List Int
  | _, [] => []
  | k, b :: r => (if b then [(k : Int)] else []) ++ allB (k + 1) r
theorem allB_append : ∀ (k : Nat) (a b : List Bool), allB k (a ++ b) = allB k a ++ allB (k + a.length) b
  | k, [], b => by simp [allB]
  | k, x :: r, b => by
    have e : ∀ (q : List Bool), allB k (x :: q) = (if x then [(k : Int)] else []) ++ allB (k + 1) q := fun q => rfl
    rw [List.cons_append, e, e]
    rw [allB_append (k + 1) r b, List.length_cons, show k + 1 + r.length = k + (r.length + 1) by omega, List.append_assoc]
theorem allB_take {bs : List Bool} {k : Nat} {b : Bool} (h : bs[k]? = some b) : allB 0 (bs.take (k + 1)) = allB 0 (bs.take k) ++ if b then [(k : Int)] else [] := by
  obtain ⟨hl, he⟩ := List.getElem?_eq_some_iff.1 h
  rw [List.take_succ_eq_append_getElem hl, he, allB_append, List.length_take, Nat.zero_add, Nat.min_eq_left (by omega)]
  simp [allB]
theorem allB_len : ∀ (k : Nat) (bs : List Bool), (allB k bs).length ≤ bs.length
  | _, [] => Nat.le_refl _
  | k, b :: r => by
    have h := allB_len (k + 1) r
    unfold allB
    rw [List.length_append, List.length_cons]
    cases b <;> simp <;> omega
theorem allB_cnt : ∀ (k : Nat) (vs : List (Option Int)), (allB k (vs.map Option.isSome)).length = cnt vs
  | _, [] => rfl
  | k, b :: r => by
    rw [List.map_cons]
    unfold allB cnt
    rw [List.length_append, allB_cnt (k + 1) r]
    cases b <;> simp

def intsV (l : List Int) : List Value := l.map (Value.int .i64)
theorem intsV_append (a b : List Int) : intsV (a ++ b) = intsV a ++ intsV b := by simp [intsV]
theorem row_slice {w : World} {base n : Nat} {xs : List Value} {v : Value} (h : w.ownsRow base 3 1 v n xs) : ∃ ao cap, v = .slice ao n cap := by
  rcases h.2 with ⟨h, h'⟩ | ⟨g, cap, cur, h, _⟩
  · exact ⟨none, 0, by rw [h']; exact h⟩
  · exact ⟨_, cap, h⟩
theorem row_keep {w w' : World} {base n : Nat} {xs : List Value} {v : Value} (h : w.ownsRow base 3 1 v n xs) (hk : ∀ g, base ≤ g → g < w.heap.size → w'.heap[g]? = w.heap[g]?) : w'.ownsRow base 3 1 v n xs := by
  obtain ⟨h1, h2⟩ := h
  refine ⟨h1, ?_⟩
  rcases h2 with h2 | ⟨g, cap, cur, e, hb, hh, r⟩
  · exact Or.inl h2
  · exact Or.inr ⟨g, cap, cur, e, hb, (hk g hb (lt_of_get hh)).trans hh, r⟩
theorem infoInt : ∃ i, Tryz.prog.info? 3 = some i ∧ i.zero = some (.int .i64 0) ∧ i.size = 1 ∧ i.bytes = 8 := by
  have h : (Tryz.prog.info? 3).map (fun i => (i.zero, i.size, i.bytes)) = some (some (.int .i64 0), 1, 8) := by kernel_rfl
  obtain ⟨i, hi, hzz⟩ := Option.map_eq_some_iff.1 h
  simp only [Prod.mk.injEq] at hzz
  exact ⟨i, hi, hzz⟩

set_option maxRecDepth 100000 in
set_option maxHeartbeats 4000000 in
theorem all_calls {w : World} {sb pb n : Nat} {vs : List (Option Int)} (h : IsStamp w sb pb n vs) : Calls Tryz.prog 57 #[.pointer (some ⟨sb, 0, none⟩)] w fun e w' => ∃ sv, e = .returned sv ∧ w'.ownsRow w.heap.size 3 1 sv (allB 0 (vs.map Option.isSome)).length (intsV (allB 0 (vs.map Option.isSome))) ∧ Below w.heap.size w w' := by
  obtain ⟨age, held, ps, hM, ha, hA, hv, hh, hO⟩ := h
  obtain ⟨i0, hi, hz0, hz1, hz2⟩ := infoInt
  obtain ⟨c0, c1, c2, f0, f1, f2⟩ := hM.cells
  have hcb : held ≤ 65536 := by have := cnt_le vs; rw [hv, List.length_map, hM.len] at this; have := hM.big; rw [hv] at hh; omega
  have hheld : (0 : Int) ≤ (held : Int) := by omega
  have HV : Hid (vs = ps.map (seenP age)) := hv
  have HM : Hid (Mem w sb pb n age held ps) := hM
  have l0 : sb < w.heap.size := lt_of_get hM.box
  have hnb : n ≤ 65536 := hM.big
  clear hM hO hv hh
  obtain ⟨BS, hBS⟩ : ∃ BS, vs.map Option.isSome = BS := ⟨_, rfl⟩
  have HBS : Hid (vs.map Option.isSome = BS) := hBS
  rw [hBS]
  clear hBS
  go_enter Tryz.func57, Tryz.ntmps57
  go_wp2_with (refine wpList_make_own _ rfl _ _ 27 rfl w.heap.size 3 i0 (.int .i64 0) 1 Tryz.underlying27 hi hz0 hz1 .i64 .i64 (held : Int) held rfl rfl rfl ?hby ?h63 ?hbase ?_; (case hby => rw [hz2]; omega); (case h63 => unfold maxLen; omega); (case hbase => omega); intro w2 hown2 hgrow2; have hbW2 : Below w.heap.size w w2 := ⟨hgrow2.os, hgrow2.tape, hgrow2.output, hgrow2.size, fun k hk => hgrow2.block k hk (by simp)⟩; obtain ⟨d0, d1, d2, _, _, _⟩ := (HM.out.below hbW2).cells)
  have HB2 : Hid (Below w.heap.size w w2) := hbW2
  have HO2 : Hid (w2.ownsRow w.heap.size 3 1 (.slice (some ⟨w.heap.size, 0, none⟩) 0 held) 0 []) := hown2
  clear hbW2 hown2 hgrow2 c0 c1 c2 f0 f1 f2
  go_loopw [3, 17] (fun av iv wr => ∃ k : Nat, k ≤ n ∧ iv = .int .i64 k ∧ wr.ownsRow w.heap.size 3 1 av (allB 0 (BS.take k)).length (intsV (allB 0 (BS.take k))) ∧ Below w.heap.size w wr) (fun _ iv _ => n - (intOf iv).toNat)
  case atStart => exact ⟨0, Nat.zero_le _, rfl, HO2.out, HB2.out⟩
  case round =>
    obtain ⟨k, hk, rfl, hR, hB⟩ := hrel
    have hM := HM.out.below hB
    obtain ⟨so, sc, hsv⟩ := row_slice hR
    subst hsv
    have HR : Hid (wr.ownsRow w.heap.size 3 1 (.slice so (allB 0 (BS.take k)).length sc) (allB 0 (BS.take k)).length (intsV (allB 0 (BS.take k)))) := hR
    have HB : Hid (Below w.heap.size w wr) := hB
    have hll : (allB 0 (BS.take k)).length ≤ 65536 := by
      have h1 := allB_len 0 (BS.take k)
      rw [List.length_take] at h1
      have := hM.big
      omega
    by_cases hlt : k < n
    · obtain ⟨p, hp⟩ : ∃ p, ps[k]? = some p := ⟨ps[k]'(by have := hM.len; omega), List.getElem?_eq_getElem _⟩
      have hbk : BS[k]? = some (seenP age p).isSome := by rw [← HBS.out, HV.out, List.map_map, List.getElem?_map, hp]; rfl
      have HT := allB_take hbk
      have HT' : Hid (type_of% HT) := HT
      have HH : Hid (type_of% (holds_calls hM hp)) := holds_calls hM hp
      clear HT hbk hp hM hR hB d0 d1 d2
      generalize allB 0 (BS.take k) = L at *
      generalize (seenP age p).isSome = b at *
      go_wp2_with fail
      refine HH.out.mono ?_
      rintro e w3 ⟨rfl, hw3⟩
      have HB3 : Hid (Below wr.heap.size wr w3 ∧ Below w.heap.size w w3) := ⟨hw3, HB.out.trans (hw3.mono HB.out.size)⟩
      have HR3 : Hid (w3.ownsRow w.heap.size 3 1 (.slice so L.length sc) L.length (intsV L)) := row_keep HR.out (fun g _ hg => hw3.block g hg)
      have hws : w.heap.size ≤ w3.heap.size := HB3.out.2.size
      clear hw3
      cases b with
      | false =>
        go_wp2
        go_roundw
        case rel => exact ⟨k + 1, by omega, by go_num, by rw [HT'.out]; simpa using HR3.out, HB3.out.2⟩
        case measure => simp [intOf]; omega
      | true =>
        go_wp2_with (at_builtin; refine wpList_append_own _ rfl _ _ 27 rfl w.heap.size 3 i0 (.int .i64 0) 1 8 Tryz.underlying27 hi hz0 hz1 hz2 rfl (by decide) (.slice so L.length sc) L.length (intsV L) rfl ?hown ⟨w3.heap.size, 0, none⟩ 1 1 [.int .i64 k] rfl rfl ?hnews ?hone ?h63 ?hby ?hbase ?_; (case hown => exact HR3.out.alloc _); (case hnews => intro j x hx; rcases j with _ | j <;> simp at hx; subst hx; simp [Addr.add]); (case hone => intro x hx; simp at hx; subst hx; rfl); (case h63 => unfold maxLen; omega); (case hby => omega); (case hbase => simp; omega); intro v' w5 hown5 hgrow5 hnil5; obtain ⟨vo, vc, hv'⟩ := row_slice hown5; subst hv')
        have hnb5 : ∀ j, j < w.heap.size → some j ≠ (Value.slice so L.length sc).ownBlock := fun j hj e => by
          rcases HR3.out.2 with ⟨h, _⟩ | ⟨g, cap', cur, h, hg, _⟩
          · injection h with h1; subst h1; cases e
          · injection h with h1; subst h1
            have : j = g := Option.some.inj e
            omega
        refine ⟨⟨k + 1, by omega, by go_num, ?_, ?_⟩, by simp [intOf]; omega⟩
        · rw [HT'.out, if_pos trivial, List.length_append, intsV_append]
          exact hown5
        · exact HB3.out.2.trans ⟨hgrow5.os, hgrow5.tape, hgrow5.output, by have := hgrow5.size; simp at this; omega, fun j hj => (hgrow5.block j (by simp; omega) (hnb5 j hj)).trans (Below.heap_alloc _ _ _ (by omega))⟩
    · obtain rfl : k = n := by omega
      have HE : Hid (BS.take k = BS) := by show _ = _; rw [List.take_of_length_le]; rw [← HBS.out, HV.out, List.length_map, List.length_map, HM.out.len]; exact Nat.le_refl _
      rw [HE.out] at HR ⊢
      clear hM hR hB
      go_wp2
      go_ret
      exact ⟨_, rfl, HR.out, HB.out⟩
end Go.Proofs.YtbaahjppofbdlaaGreatDoor.St

namespace Go.Proofs.YtbaahjppofbdlaaGreatDoor
open Go.RowKit Go.Extern

attribute [local go_sem] Oper.semAt_some

/-- the nodes that have a label, rising. -/
def labN (S : FS) : List Int := St.allB 0 (S.vs.map Option.isSome)
/-- a label's distance. -/
def labD (S : FS) (v : Nat) : Int := match S.vs[v]? with
  | some (some d) => d
  | _ => 0
/-- a label as cells. -/
def labC (S : FS) (v : Nat) : List Value := [.int .i64 (v : Int), .int .u64 (labD S v), .int .i64 (S.hs v), .bool (S.f (v : Int)).isNone]
def labCs (S : FS) (l : List Int) : List Value := l.flatMap fun v => labC S v.toNat
theorem labCs_snoc (S : FS) (l : List Int) (v : Nat) : labCs S (l ++ [(v : Int)]) = labCs S l ++ labC S v := by simp [labCs]
theorem allB_mem : ∀ (k : Nat) (bs : List Bool) (x : Int), x ∈ St.allB k bs → ∃ i : Nat, x = (k : Int) + i ∧ bs[i]? = some true
  | k, [], x, h => by simp [St.allB] at h
  | k, b :: r, x, h => by
    rw [St.allB, List.mem_append] at h
    rcases h with h | h
    · cases b with
      | false => simp at h
      | true =>
        simp at h
        exact ⟨0, by omega, rfl⟩
    · obtain ⟨i, e, hi⟩ := allB_mem (k + 1) r x h
      exact ⟨i + 1, by omega, by simpa using hi⟩
theorem labN_mem {S : FS} {x : Int} (h : x ∈ labN S) : ∃ (v : Nat) (d : Int), x = (v : Int) ∧ S.vs[v]? = some (some d) := by
  obtain ⟨i, e, hi⟩ := allB_mem 0 _ x h
  rw [List.getElem?_map, Option.map_eq_some_iff] at hi
  obtain ⟨o, ho, hs⟩ := hi
  cases o with
  | none => cases hs
  | some d => exact ⟨i, d, by omega, ho⟩
theorem lown_keep {w w' : World} {B n : Nat} {v : Value} {xs : List Value} (h : w.ownsRow B 45 4 v n xs) (hk : ∀ k, v.ownBlock = some k → w'.heap[k]? = w.heap[k]?) : w'.ownsRow B 45 4 v n xs := by
  obtain ⟨h1, h2⟩ := h
  refine ⟨h1, ?_⟩
  rcases h2 with h2 | ⟨g, cap, cur, e, hb, hh, r⟩
  · exact Or.inl h2
  · subst e
    exact Or.inr ⟨g, cap, cur, rfl, hb, (hk g rfl).trans hh, r⟩
theorem lown_below {w w' : World} {B n : Nat} {v : Value} {xs : List Value} (h : w.ownsRow B 45 4 v n xs) (hb : Below w.heap.size w w') : w'.ownsRow B 45 4 v n xs := lown_keep h fun k hk => hb.block _ (h.lt k hk).2
theorem lown_slice {w : World} {B n : Nat} {v : Value} {xs : List Value} (h : w.ownsRow B 45 4 v n xs) : ∃ ao cap, v = .slice ao n cap := by
  rcases h.2 with ⟨h, h'⟩ | ⟨g, cap, cur, h, _⟩
  · exact ⟨none, 0, by rw [h']; exact h⟩
  · exact ⟨_, cap, h⟩
theorem lown_apart {w : World} {B B' n m : Nat} {v u : Value} {xs ys : List Value} (h : w.ownsRow B 45 4 v n xs) (k : w.ownsRow B' 3 1 u m ys) : ∀ b, u.ownBlock = some b → v.ownBlock ≠ some b := fun b hb e => by
  rcases h.2 with ⟨rfl, _⟩ | ⟨g, cap, cur, rfl, _, hg, _⟩
  · cases e
  · rcases k.2 with ⟨rfl, _⟩ | ⟨g', cap', cur', rfl, _, hg', _⟩
    · cases hb
    · obtain rfl : g = b := Option.some.inj e
      obtain rfl : g' = g := Option.some.inj hb
      rw [hg] at hg'
      injection hg' with h1
      injection h1 with h2 h3
      exact absurd h3 (by decide)
theorem four_cell (w : World) (a b c d : Value) : ∀ j u, [a, b, c, d][j]? = some u → (w.alloc (.cells #[a, b, c, d] 45)).cell? ((⟨w.heap.size, 0, none⟩ : Addr).add j) = some u := by
  intro j u hj
  have h := heap_new w (.cells #[a, b, c, d] 45)
  generalize w.alloc (.cells #[a, b, c, d] 45) = W at h
  rcases j with _ | _ | _ | _ | j
  all_goals first
    | (cases hj; simp [Addr.add, World.cell?, h])
    | simp at hj
theorem infoLb : (Tryz.prog.info? 45).map (fun i => (i.zero, i.size, i.bytes)) = some (some (.agg #[.int .i64 0, .int .u64 0, .int .i64 0, .bool false]), 4, 32) := by kernel_rfl
theorem buildLb (a b c : Int) (d : Bool) (wx : World) : (Instr.build 45 #[(0, .int .i64 a), (1, .int .u64 b), (2, .int .i64 c), (3, .bool d)]).run Tryz.prog wx = .ok (.agg #[.int .i64 a, .int .u64 b, .int .i64 c, .bool d]) wx := by kernel_rfl

set_option maxRecDepth 100000 in
set_option maxHeartbeats 8000000 in
theorem labels_calls {B : Nat} {w : World} {n : Nat} {L : FL} {c0 c1 c2 sv : Value} {S : FS} (hF : Fnd B w n L c0 c1 c2 sv S) (hn : n ≤ 65536) :
    Calls Tryz.prog 27 #[.pointer (some ⟨L.fi, 0, none⟩)] w fun e w' => ∃ lo lc, e = .returned (.slice lo (labN S).length lc) ∧ w'.ownsRow w.heap.size 45 4 (.slice lo (labN S).length lc) (labN S).length (labCs S (labN S)) ∧ Below w.heap.size w w' := by
  obtain ⟨i0, hi, hz0, hz1, hz2⟩ : ∃ i, Tryz.prog.info? 45 = some i ∧ i.zero = some (.agg #[.int .i64 0, .int .u64 0, .int .i64 0, .bool false]) ∧ i.size = 4 ∧ i.bytes = 32 := by
    have h := infoLb
    cases hi : Tryz.prog.info? 45 with
    | none => rw [hi] at h; cases h
    | some i => rw [hi] at h; simp at h; exact ⟨i, rfl, h.1, h.2.1, h.2.2⟩
  have hbd := buildLb
  have HF : Hid (Fnd B w n L c0 c1 c2 sv S) := hF
  have HVL : Hid (S.vs.length = n) := hF.st.lt.2.2.2.1
  have hll : (labN S).length ≤ 65536 := by
    have h := St.allB_len 0 (S.vs.map Option.isSome)
    rw [List.length_map, HVL.out] at h
    exact Nat.le_trans h hn
  have hcnt : (labN S).length = St.cnt S.vs := St.allB_cnt 0 S.vs
  have k3 : w.cell? ⟨L.fi, 3, none⟩ = some (.pointer (some ⟨L.sb, 0, none⟩)) := hF.box7.2.2.2.1
  have kl := hF.lts.1
  clear hF
  go_enter Tryz.func27, Tryz.ntmps27
  go_wp2_with fail
  refine (St.len_calls HF.out.st).mono ?_
  rintro e w1 ⟨rfl, rfl⟩
  rw [← hcnt]
  clear hcnt
  go_wp2_with (refine wpList_make_own _ rfl _ _ 40 rfl w1.heap.size 45 i0 (.agg #[.int .i64 0, .int .u64 0, .int .i64 0, .bool false]) 4 Tryz.underlying40 hi hz0 hz1 .i64 .i64 ((labN S).length : Int) (labN S).length rfl rfl rfl ?hby ?h63 ?hbase ?_; (case hby => rw [hz2]; omega); (case h63 => unfold maxLen; omega); (case hbase => omega); intro w2 hown2 hgrow2; have hbW2 : Below w1.heap.size w1 w2 := ⟨hgrow2.os, hgrow2.tape, hgrow2.output, hgrow2.size, fun k hk => hgrow2.block k hk (by simp)⟩; have k3' := ((HF.out.below hbW2).box7).2.2.2.1; have kl' := (HF.out.below hbW2).lts.1)
  have H2 : Hid (w2.ownsRow w1.heap.size 45 4 (.slice (some ⟨w1.heap.size, 0, none⟩) 0 (labN S).length) 0 [] ∧ Below w1.heap.size w1 w2) := ⟨hown2, hbW2⟩
  clear hown2 hgrow2 hbW2 k3 kl k3' kl'
  refine (St.all_calls (HF.out.below H2.out.2).st).mono ?_
  rintro e w3 ⟨lv, rfl, ho, hb3⟩
  rw [show St.allB 0 (S.vs.map Option.isSome) = labN S from rfl] at ho
  obtain ⟨po, pc, hlv⟩ := iown_slice ho
  subst hlv
  have H3 : Hid (w3.ownsRow w1.heap.size 45 4 (.slice (some ⟨w1.heap.size, 0, none⟩) 0 (labN S).length) 0 [] ∧ w3.ownsRow w1.heap.size 3 1 (.slice po (labN S).length pc) (labN S).length (iv (labN S)) ∧ Below w1.heap.size w1 w3) := ⟨lown_below H2.out.1 hb3, iown_base ho H2.out.2.size, btr H2.out.2 hb3⟩
  clear ho hb3
  have HNM : Hid (∀ (k : Nat), k < (labN S).length → ∃ (v : Nat) (d : Int), (labN S)[k]? = some (v : Int) ∧ S.vs[v]? = some (some d)) := fun k hk => by
    obtain ⟨x, hx⟩ : ∃ x, (labN S)[k]? = some x := ⟨(labN S)[k], List.getElem?_eq_getElem hk⟩
    obtain ⟨v, d, e, hv⟩ := labN_mem (List.mem_of_getElem? hx)
    subst e
    exact ⟨v, d, hx, hv⟩
  have HCS : Hid (∀ (k v : Nat), (labN S)[k]? = some (v : Int) → labCs S ((labN S).take (k + 1)) = labCs S ((labN S).take k) ++ labC S v) := fun k v hk => by rw [take_snoc hk, labCs_snoc]
  have HTL : Hid (labCs S ((labN S).take (labN S).length) = labCs S (labN S)) := by show _ = _; rw [List.take_length]
  generalize hNE : labN S = N at *
  have HNE : Hid (labN S = N) := hNE
  clear hNE
  go_wp2_with fail
  go_loopw [3, 22] (fun av iv' wr => ∃ (k : Nat) (so : Option Addr) (sc : Nat), k ≤ N.length ∧ iv' = .int .i64 k ∧ av = .slice so k sc ∧ wr.ownsRow w1.heap.size 45 4 (.slice so k sc) k (labCs S (N.take k)) ∧ wr.ownsRow w1.heap.size 3 1 (.slice po N.length pc) N.length (iv N) ∧ Below w1.heap.size w1 wr) (fun _ iv' _ => N.length - (intOf iv').toNat)
  case atStart => exact ⟨0, _, _, Nat.zero_le _, rfl, rfl, by rw [List.take_zero]; exact H3.out.1, H3.out.2.1, H3.out.2.2⟩
  case round =>
    obtain ⟨k, so, sc, hk, rfl, rfl, hO, hI, hb⟩ := hrel
    have HO : Hid (wr.ownsRow w1.heap.size 45 4 (.slice so k sc) k (labCs S (N.take k)) ∧ wr.ownsRow w1.heap.size 3 1 (.slice po N.length pc) N.length (iv N) ∧ Below w1.heap.size w1 wr) := ⟨hO, hI, hb⟩
    clear hO hI hb
    by_cases hlt : k < N.length
    · obtain ⟨v, d, hv, hd⟩ := HNM.out k hlt
      obtain ⟨b, off, e, hbl, q0⟩ := (ints_of_iown HO.out.2.1).at hv
      have he := e
      subst he
      have hvn : v < n := by
        have h := (List.getElem?_eq_some_iff.1 hd).1
        rw [HVL.out] at h
        exact h
      have HFW : Hid (Fnd B wr n L c0 c1 c2 sv S) := HF.out.below HO.out.2.2
      have HD : Hid (S.vs[v]? = some (some d) ∧ labCs S (N.take (k + 1)) = labCs S (N.take k) ++ labC S v) := ⟨hd, HCS.out k v hv⟩
      obtain ⟨_, _, _, k3, k4, _, k6⟩ := HFW.out.box7
      have kl := HFW.out.lts.1
      have i1 : (k : Int) < (N.length : Int) := by omega
      have i2 : (0 : Int) ≤ (k : Int) := by omega
      clear hv hd
      go_wp2_with fail
      refine (St.get_in HFW.out.st v (some d) HD.out.1).mono ?_
      rintro e w5 ⟨rfl, hb5⟩
      have H5 : Hid (Fnd B w5 n L c0 c1 c2 sv S ∧ (w5.ownsRow w1.heap.size 45 4 (.slice so k sc) k (labCs S (N.take k)) ∧ w5.ownsRow w1.heap.size 3 1 (.slice (some ⟨b, off, none⟩) N.length pc) N.length (iv N) ∧ Below w1.heap.size w1 w5)) := ⟨HFW.out.below hb5, lown_below HO.out.1 hb5, iown_below HO.out.2.1 hb5, btr HO.out.2.2 hb5⟩
      clear hb5 k3 k4 k6 kl q0 hbl
      simp only [St.gotV]
      have HKY : Hid (∃ x : Int, Calls Tryz.prog 58 #[.pointer (some ⟨L.hb, 0, none⟩), .int .u32 v] w5 fun e w' => e = .returned (.tuple #[.int .u64 x, .bool (!(S.f (v : Int)).isNone)]) ∧ w' = w5) := by
        cases hf : S.f (v : Int) with
        | none => exact ⟨0, Hp.key_out H5.out.1.hp v hvn hf⟩
        | some x => exact ⟨x, Hp.key_in H5.out.1.hp v hvn x hf⟩
      obtain ⟨x, hky⟩ := HKY.out
      have HKC : Hid (type_of% hky) := hky
      obtain ⟨_, _, _, k3, k4, _, k6⟩ := H5.out.1.box7
      have kl := H5.out.1.lts.1
      have u1 : IntKind.u32.wrap (v : Int) = (v : Int) := by rw [IntKind.wrap_u32] <;> omega
      have hh := H5.out.1.hops.cell hvn
      have hhl := H5.out.1.hops.lt
      have j1 : (v : Int) < (n : Int) := by omega
      have j2 : (0 : Int) ≤ (v : Int) := by omega
      have HLB : Hid (labC S v = [.int .i64 (v : Int), .int .u64 d, .int .i64 (S.hs v), .bool (S.f (v : Int)).isNone]) := by
        show _ = _
        unfold labC labD
        rw [HD.out.1]
      clear hky HKY
      go_wp2_with fail
      refine HKC.out.mono ?_
      rintro e w6 ⟨rfl, rfl⟩
      generalize (S.f (v : Int)).isNone = bn at *
      have hws : w1.heap.size ≤ w6.heap.size := H5.out.2.2.2.size
      go_wp2_with (at_builtin; refine wpList_append_own _ rfl _ _ 40 rfl w1.heap.size 45 i0 (.agg #[.int .i64 0, .int .u64 0, .int .i64 0, .bool false]) 4 32 Tryz.underlying40 hi hz0 hz1 hz2 rfl (by decide) (.slice so k sc) k (labCs S (N.take k)) rfl (lown_below H5.out.2.1 ((Below.refl _ w6).alloc (Nat.le_refl _) _)) ⟨w6.heap.size, 0, none⟩ 1 1 [.int .i64 (v : Int), .int .u64 d, .int .i64 (S.hs v), .bool bn] rfl rfl (four_cell w6 _ _ _ _) (fun u hu => by simp at hu; rcases hu with rfl | rfl | rfl | rfl <;> rfl) (by unfold maxLen; omega) (by omega) (by simp; omega) ?_; intro v5 w7 hown5 hgr5 _; have H7 : Hid (w7.ownsRow w1.heap.size 45 4 v5 (k + 1) (labCs S (N.take k) ++ [.int .i64 (v : Int), .int .u64 d, .int .i64 (S.hs v), .bool bn]) ∧ (w6.alloc (.cells #[.int .i64 (v : Int), .int .u64 d, .int .i64 (S.hs v), .bool bn] 45)).grownBy w7 (Value.ownBlock (.slice so k sc))) := ⟨hown5, hgr5⟩; clear hown5 hgr5)
      obtain ⟨qo, qc, hv5⟩ := lown_slice H7.out.1
      subst hv5
      have H8 : Hid (w7.ownsRow w1.heap.size 45 4 (.slice qo (k + 1) qc) (k + 1) (labCs S (N.take (k + 1))) ∧ w7.ownsRow w1.heap.size 3 1 (.slice (some ⟨b, off, none⟩) N.length pc) N.length (iv N) ∧ Below w1.heap.size w1 w7) := by
        have hal : Below w6.heap.size w6 (w6.alloc (.cells #[.int .i64 (v : Int), .int .u64 d, .int .i64 (S.hs v), .bool bn] 45)) := (Below.refl _ _).alloc (Nat.le_refl _) _
        have hlo := lown_below H5.out.2.1 hal
        have hio := iown_below H5.out.2.2.1 hal
        refine ⟨?_, iown_keep hio fun g hg => H7.out.2.block g (hio.lt g hg).2 (fun e => lown_apart hlo hio g hg e.symm), ?_⟩
        · rw [HD.out.2, HLB.out]
          exact H7.out.1
        · exact (btr H5.out.2.2.2 hal).trans ⟨H7.out.2.os, H7.out.2.tape, H7.out.2.output, H7.out.2.size, fun j hj => H7.out.2.block j (by have := hal.size; omega) (fun e => by have := (hlo.lt j e.symm).1; omega)⟩
      go_roundw
      case rel => exact ⟨k + 1, qo, qc, by omega, by go_num, rfl, H8.out.1, H8.out.2.1, H8.out.2.2⟩
      case measure => simp [intOf]; omega
    · obtain rfl : k = N.length := by omega
      have H9 : Hid (wr.ownsRow w1.heap.size 45 4 (.slice so N.length sc) N.length (labCs S N) ∧ Below w1.heap.size w1 wr) := ⟨by rw [← HTL.out]; exact HO.out.1, HO.out.2.2⟩
      go_wp2
      go_ret
      refine ⟨so, sc, ?_⟩
      rw [HNE.out]
      exact ⟨rfl, H9.out.1, H9.out.2⟩
end Go.Proofs.YtbaahjppofbdlaaGreatDoor

namespace Go.Proofs.YtbaahjppofbdlaaGreatDoor
open Go.RowKit Go.Extern

/-- the labels of the first nodes. -/
def labP (S : FS) (i : Nat) : List Int := St.allB 0 ((S.vs.map Option.isSome).take i)
theorem labP_zero (S : FS) : labP S 0 = [] := rfl
theorem labP_none {S : FS} {i : Nat} (h : S.vs[i]? = some none) : labP S (i + 1) = labP S i := by
  unfold labP
  rw [St.allB_take (b := false) (by simp [h])]
  simp
theorem labP_some {S : FS} {i : Nat} {d : Int} (h : S.vs[i]? = some (some d)) : labP S (i + 1) = labP S i ++ [(i : Int)] := by
  unfold labP
  rw [St.allB_take (b := true) (by simp [h])]
  simp
theorem labP_len (S : FS) (i : Nat) : (labP S i).length ≤ i := by
  unfold labP
  refine Nat.le_trans (St.allB_len _ _) ?_
  rw [List.length_take]
  omega
theorem labP_all {S : FS} {n : Nat} (h : S.vs.length = n) : labP S n = labN S := by
  unfold labP labN
  rw [← h, show S.vs.length = (S.vs.map Option.isSome).length by simp, List.take_length]
/-- a label's four cells. -/
abbrev L4 := Int × Int × Int × Bool
def flat4 (l : List L4) : List Value := l.flatMap fun a => [.int .i64 a.1, .int .u64 a.2.1, .int .i64 a.2.2.1, .bool a.2.2.2]
theorem flat4_get : ∀ (l : List L4) (i : Nat) (a : L4), l[i]? = some a → (flat4 l)[i * 4]? = some (.int .i64 a.1) ∧ (flat4 l)[i * 4 + 1]? = some (.int .u64 a.2.1) ∧ (flat4 l)[i * 4 + 2]? = some (.int .i64 a.2.2.1) ∧ (flat4 l)[i * 4 + 3]? = some (.bool a.2.2.2)
  | [], i, a, h => by simp at h
  | b :: r, 0, a, h => by
    simp at h
    subst h
    simp [flat4]
  | b :: r, i + 1, a, h => by
    have ih := flat4_get r i a (by simpa using h)
    have e : flat4 (b :: r) = [.int .i64 b.1, .int .u64 b.2.1, .int .i64 b.2.2.1, .bool b.2.2.2] ++ flat4 r := by simp [flat4]
    rw [e, show (i + 1) * 4 = i * 4 + 4 by omega]
    refine ⟨?_, ?_, ?_, ?_⟩
    · rw [List.getElem?_append_right (by simp)]; simpa using ih.1
    · rw [List.getElem?_append_right (by simp)]; simpa [show i * 4 + 4 + 1 - 4 = i * 4 + 1 by omega] using ih.2.1
    · rw [List.getElem?_append_right (by simp)]; simpa [show i * 4 + 4 + 2 - 4 = i * 4 + 2 by omega] using ih.2.2.1
    · rw [List.getElem?_append_right (by simp)]; simpa [show i * 4 + 4 + 3 - 4 = i * 4 + 3 by omega] using ih.2.2.2
/-- labels in memory. -/
def LabIn (w : World) (o : Option Addr) (l : List L4) : Prop := ∀ (j : Nat) (a : L4), l[j]? = some a → ∃ b off, o = some ⟨b, off, none⟩ ∧ b < w.heap.size ∧ w.cell? ⟨b, off + j * 4, none⟩ = some (.int .i64 a.1) ∧ w.cell? ⟨b, off + j * 4 + 1, none⟩ = some (.int .u64 a.2.1) ∧ w.cell? ⟨b, off + j * 4 + 2, none⟩ = some (.int .i64 a.2.2.1) ∧ w.cell? ⟨b, off + j * 4 + 3, none⟩ = some (.bool a.2.2.2)
theorem LabIn.keep {w w' : World} {o : Option Addr} {l : List L4} (h : LabIn w o l) (hb : Below w.heap.size w w') : LabIn w' o l := fun j a ha => by
  obtain ⟨b, off, e, hl, h0, h1, h2, h3⟩ := h j a ha
  exact ⟨b, off, e, Nat.lt_of_lt_of_le hl hb.size, (hb.cell (p := ⟨b, _, none⟩) hl).trans h0, (hb.cell (p := ⟨b, _, none⟩) hl).trans h1, (hb.cell (p := ⟨b, _, none⟩) hl).trans h2, (hb.cell (p := ⟨b, _, none⟩) hl).trans h3⟩
theorem LabIn.nil (w : World) : LabIn w none [] := fun j a h => by simp at h
theorem labIn_of {w : World} {base T : Nat} {o : Option Addr} {c : Nat} {l : List L4} (h : w.ownsRow base T 4 (.slice o l.length c) l.length (flat4 l)) : LabIn w o l := fun j a hj => by
  have hlt := (List.getElem?_eq_some_iff.1 hj).1
  rcases h.2 with ⟨e, h0⟩ | ⟨g, cap, cur, e, hg, hh, _⟩
  · omega
  · injection e with e1 e2 e3
    subst e1
    subst e3
    refine ⟨g, 0, rfl, lt_of_get hh, ?_⟩
    obtain ⟨g0, g1, g2, g3⟩ := flat4_get l j a hj
    rw [Nat.zero_add]
    exact ⟨(h.cellAt (j * 4) (by omega)).trans g0, (h.cellAt (j * 4 + 1) (by omega)).trans g1, (h.cellAt (j * 4 + 2) (by omega)).trans g2, (h.cellAt (j * 4 + 3) (by omega)).trans g3⟩
def labT (S : FS) (v : Int) : L4 := ((v.toNat : Int), labD S v.toNat, S.hs v.toNat, (S.f (v.toNat : Int)).isNone)
theorem labCs_flat (S : FS) (l : List Int) : labCs S l = flat4 (l.map (labT S)) := by
  unfold labCs flat4
  rw [List.flatMap_map]
  rfl
theorem labN_len {S : FS} {n : Nat} (h : S.vs.length = n) : (labN S).length ≤ n := by
  unfold labN
  refine Nat.le_trans (St.allB_len _ _) ?_
  rw [List.length_map, h]
  exact Nat.le_refl _
theorem labP_more (S : FS) : ∀ (m i : Nat), ∃ l, labP S (i + m) = labP S i ++ l
  | 0, i => ⟨[], by simp⟩
  | m + 1, i => by
    obtain ⟨l, hl⟩ := labP_more S m i
    have hex : ∃ l', labP S (i + m + 1) = labP S (i + m) ++ l' := by
      cases h : S.vs[i + m]? with
      | none =>
        refine ⟨[], ?_⟩
        have hle : S.vs.length ≤ i + m := List.getElem?_eq_none_iff.1 h
        unfold labP
        rw [List.take_of_length_le (by rw [List.length_map]; omega), List.take_of_length_le (by rw [List.length_map]; omega), List.append_nil]
      | some o =>
        cases o with
        | none => exact ⟨[], by rw [labP_none h, List.append_nil]⟩
        | some d => exact ⟨[((i + m : Nat) : Int)], labP_some h⟩
    obtain ⟨l', hl'⟩ := hex
    exact ⟨l ++ l', by rw [show i + (m + 1) = i + m + 1 by omega, hl', hl, List.append_assoc]⟩
/-- where a node's label stands. -/
theorem labN_at {S : FS} {n v : Nat} {d : Int} (hn : S.vs.length = n) (h : S.vs[v]? = some (some d)) : (labN S)[(labP S v).length]? = some (v : Int) := by
  have hv : v < n := by rw [← hn]; exact (List.getElem?_eq_some_iff.1 h).1
  obtain ⟨l, hl⟩ := labP_more S (n - (v + 1)) (v + 1)
  rw [show v + 1 + (n - (v + 1)) = n by omega, labP_all hn, labP_some h] at hl
  rw [hl, List.append_assoc, List.getElem?_append_right (Nat.le_refl _), Nat.sub_self]
  rfl
end Go.Proofs.YtbaahjppofbdlaaGreatDoor

namespace Go.Proofs.YtbaahjppofbdlaaGreatDoor
open Go.RowKit Go.Extern

attribute [local go_sem] Oper.semAt_some

theorem buildBd (a b c : Int) (wx : World) : (Instr.build 72 #[(0, .int .i64 a), (1, .int .i64 b), (2, .int .u64 c)]).run Tryz.prog wx = .ok (.agg #[.int .i64 a, .int .i64 b, .int .u64 c]) wx := by kernel_rfl

set_option maxRecDepth 100000 in
set_option maxHeartbeats 4000000 in
theorem sBounded_good (n : Nat) (zs : List (Int × Int × Int)) (fo uo wo : Option Addr) (fc tc wc : Nat) (w : World) (hz : Fine n zs) (h : CsrIn w n zs fo uo wo fc tc wc) (s : Nat) (hs : s < n) (hp se mo : Int) :
    Calls Tryz.prog 11 #[.agg #[.slice fo (n + 1) fc, .slice uo zs.length tc, .slice wo zs.length wc], .int .i64 s, .int .i64 hp, .int .i64 se, .int .u64 mo] w fun e w' => ∃ (S0 : FS) (t : Nat) (S : FS) (lo : Option Addr) (lc : Nat), (Steps n zs hp mo (S0.begin n s) t S ∧ RunEnd n se mo t S) ∧ e = .returned (.tuple #[.slice lo (labN S).length lc, .nilIface]) ∧ w'.ownsRow w.heap.size 45 4 (.slice lo (labN S).length lc) (labN S).length (labCs S (labN S)) ∧ Below w.heap.size w w' := by
  have hbd := buildBd
  obtain ⟨W0, hW0⟩ : ∃ W0, (w.alloc (.cells #[.slice fo (n + 1) fc, .slice uo zs.length tc, .slice wo zs.length wc] 29)).alloc (.cells #[.int .i64 s] 3) = W0 := ⟨_, rfl⟩
  have HW0 : Hid ((w.alloc (.cells #[.slice fo (n + 1) fc, .slice uo zs.length tc, .slice wo zs.length wc] 29)).alloc (.cells #[.int .i64 s] 3) = W0) := hW0
  have hB0 : Below w.heap.size w W0 := by rw [← hW0]; exact ((Below.refl _ w).alloc (Nat.le_refl _) _).alloc (by simp) _
  have hI : HasInts W0 (.slice (some ⟨w.heap.size + 1, 0, none⟩) 1 1) [(s : Int)] := by
    have := ints_one (w.alloc (.cells #[.slice fo (n + 1) fc, .slice uo zs.length tc, .slice wo zs.length wc] 29)) (s : Int)
    rw [hW0] at this
    simpa using this
  have HC : Hid (∀ wx, Below w.heap.size w wx → CsrIn wx n zs fo uo wo fc tc wc) := fun wx hb => h.keep hb
  have HNF : Hid (Calls Tryz.prog 23 #[.agg #[.slice fo (n + 1) fc, .slice uo zs.length tc, .slice wo zs.length wc], .slice (some ⟨w.heap.size + 1, 0, none⟩) 1 1] W0 fun e w' => ∃ L S, e = .returned (.tuple #[.pointer (some ⟨L.fi, 0, none⟩), .nilIface]) ∧ Fnd W0.heap.size w' n L (.slice fo (n + 1) fc) (.slice uo zs.length tc) (.slice wo zs.length wc) (.slice none 0 0) S ∧ Below W0.heap.size W0 w') := newFinder_good n zs fo uo wo fc tc wc W0 hz (h.keep hB0) (some ⟨w.heap.size + 1, 0, none⟩) 1 [(s : Int)] hI (by simp) (fun v hv => by simp at hv; subst hv; omega)
  have HZ : Hid (Fine n zs) := hz
  have HB0 : Hid (Below w.heap.size w W0) := hB0
  have hn := hz.few
  clear hW0 hB0 hI h hz
  go_enter Tryz.func11, Tryz.ntmps11
  go_wp2_with fail
  rw [HW0.out]
  refine HNF.out.mono ?_
  rintro e w1 ⟨L, S, rfl, hF, hb1⟩
  have H1 : Hid (Fnd W0.heap.size w1 n L (.slice fo (n + 1) fc) (.slice uo zs.length tc) (.slice wo zs.length wc) (.slice none 0 0) S ∧ Below W0.heap.size W0 w1) := ⟨hF, hb1⟩
  clear hF hb1
  go_wp2_with fail
  refine (run_calls H1.out.1 H1.out.2.size HZ.out (fun wx hx => HC.out wx (btr HB0.out (H1.out.2.trans hx))) s hs hp se mo).mono ?_
  rintro e w3 ⟨rfl, ⟨sv3, k, S3, h1, h2, h3, h4⟩, hb3⟩
  have H3 : Hid (Fnd W0.heap.size w3 n L (.slice fo (n + 1) fc) (.slice uo zs.length tc) (.slice wo zs.length wc) sv3 S3 ∧ Below W0.heap.size W0 w3 ∧ (Steps n zs hp mo (S.begin n s) k S3 ∧ RunEnd n se mo k S3)) := ⟨h1, H1.out.2.trans hb3, h3, h4⟩
  clear h1 h2 h3 h4 hb3
  go_wp2_with fail
  refine (labels_calls H3.out.1 hn).mono ?_
  rintro e w4 ⟨lo, lc, rfl, ho, hb4⟩
  have H4 : Hid (w4.ownsRow w.heap.size 45 4 (.slice lo (labN S3).length lc) (labN S3).length (labCs S3 (labN S3)) ∧ Below w.heap.size w w4) := by
    refine ⟨?_, btr (btr HB0.out H3.out.2.1) hb4⟩
    obtain ⟨q1, q2⟩ := ho
    refine ⟨q1, ?_⟩
    rcases q2 with q2 | ⟨g, cap, cur, e, hg, r⟩
    · exact Or.inl q2
    · exact Or.inr ⟨g, cap, cur, e, Nat.le_trans (btr HB0.out H3.out.2.1).size hg, r⟩
  clear ho hb4
  go_wp2
  go_ret2
  exact ⟨S, k, S3, lo, lc, H3.out.2.2, rfl, H4.out.1, H4.out.2⟩
end Go.Proofs.YtbaahjppofbdlaaGreatDoor
