/- The nodes ahead: each labelled node but the first has one, settled, an arc away; so the way back ends. In a seat of walks the reversal is told there. finder.pathBack: the way back from a labelled node, turned about. search.Path at right arrays and nodes of theirs. -/
import Derived.Test.YtefcmpdnlbpjpaaSeX
import Derived.Test.YtefcmpdnlbpjpaaWkL
import Derived.Test.YtefcmpdnlbpjpaaRefBuW
import Derived.OwnWalk
import Derived.Test.YtefcmpdnlbpjpaaSeY
namespace Go.Proofs.Ytefcmpdnlbpjpaa

structure Ahd (zs : List (Int × Int × Int)) (s : Nat) (S : FS) : Prop where
  src : S.vs[s]? = some (some 0)
  hop : S.hs s = 0
  ah : ∀ (x : Nat) (d : Int), S.vs[x]? = some (some d) → x ≠ s → ∃ (u : Nat) (r e : Int), S.ah x = (u : Int) ∧ S.vs[u]? = some (some e) ∧ S.f (u : Int) = none ∧ ((u : Int), (x : Int), r) ∈ zs ∧ d = e + r ∧ S.hs x = S.hs u + 1
theorem upd_at (f : Int → Option Int) (v u : Nat) (o : Option Int) : Hp.upd f (v : Int) o (u : Int) = if u = v then o else f (u : Int) := by
  unfold Hp.upd
  by_cases e : u = v
  · rw [if_pos (by omega), if_pos e]
  · rw [if_neg (by omega), if_neg e]
theorem Ahd.pop {zs : List (Int × Int × Int)} {s : Nat} {S : FS} (h : Ahd zs s S) (v : Nat) : Ahd zs s (S.pop v) := by
  refine ⟨h.src, h.hop, fun x d hx hne => ?_⟩
  obtain ⟨u, r, e, g1, g2, g3, g4⟩ := h.ah x d hx hne
  refine ⟨u, r, e, g1, g2, ?_, g4⟩
  show Hp.upd S.f v none (u : Int) = none
  rw [upd_at]
  split
  · rfl
  · exact g3
/-- while a node's arcs are looked at. -/
structure Ahm (zs : List (Int × Int × Int)) (s v : Nat) (k h : Int) (S : FS) : Prop where
  ahd : Ahd zs s S
  low : ∀ (u : Nat) (d : Int), S.vs[u]? = some (some d) → S.f (u : Int) = none → d ≤ k
  me : S.vs[v]? = some (some k) ∧ S.f (v : Int) = none ∧ S.hs v = h
theorem Ahm.next {n : Nat} {zs : List (Int × Int × Int)} {s v : Nat} {k h : Int} {S : FS} (hz : Fine n zs) (hI : Ahm zs s v k h S) (hk : 0 ≤ k) {a : Int × Int × Int} (ha : a ∈ zs) (hav : a.1 = (v : Int)) : Ahm zs s v k h (relax1 v k h S a) := by
  obtain ⟨a0, a1, w⟩ := a
  simp only at hav
  subst hav
  obtain ⟨n1, n2, n3, n4, n5, n6, n7⟩ := hz.ends _ ha
  simp only at n1 n2 n3 n4 n5 n6 n7
  obtain ⟨x, rfl⟩ := Int.eq_ofNat_of_zero_le n3
  unfold relax1
  simp only [Int.toNat_natCast]
  by_cases hb : S.better x (k + w) = true
  · rw [if_pos hb]
    have hvx : v ≠ x := fun e => n5 (by rw [e])
    have hbet : ∀ e, S.vs[x]? = some (some e) → k + w < e := fun e he => by
      unfold FS.better at hb
      rw [he] at hb
      exact of_decide_eq_true hb
    have hxs : s ≠ x := fun e => by
      subst e
      have := hbet 0 hI.ahd.src
      omega
    have hvs : ∀ (u : Nat) (e : Int), (S.vs.set x (some (k + w)))[u]? = some (some e) → (u = x ∧ e = k + w) ∨ (u ≠ x ∧ S.vs[u]? = some (some e)) := fun u e hu => by
      rcases set_get hu with ⟨h1, h2⟩ | h
      · exact Or.inl ⟨h1, Option.some.inj h2⟩
      · exact Or.inr h
    have hkeep : ∀ (u : Nat) (o : Option Int), u ≠ x → S.vs[u]? = some o → (S.vs.set x (some (k + w)))[u]? = some o := fun u o hu h => by
      rw [List.getElem?_set, if_neg (Ne.symm hu)]
      exact h
    refine ⟨⟨hkeep s _ hxs hI.ahd.src, ?_, fun y d hy hne => ?_⟩, fun u d hu hf => ?_, hkeep v _ hvx hI.me.1, ?_, ?_⟩
    · show (if s = x then h + 1 else S.hs s) = 0
      rw [if_neg hxs]
      exact hI.ahd.hop
    · rcases hvs y d hy with ⟨rfl, rfl⟩ | ⟨hyx, hy2⟩
      · refine ⟨v, w, k, ?_, hkeep v _ hvx hI.me.1, ?_, ha, rfl, ?_⟩
        · show (if y = y then (v : Int) else S.ah y) = (v : Int)
          rw [if_pos rfl]
        · show Hp.upd S.f y (some (k + w)) (v : Int) = none
          rw [upd_at, if_neg hvx]
          exact hI.me.2.1
        · show (if y = y then h + 1 else S.hs y) = (if v = y then h + 1 else S.hs v) + 1
          rw [if_pos rfl, if_neg hvx, hI.me.2.2]
      · obtain ⟨u, r, e, g1, g2, g3, g4, g5, g6⟩ := hI.ahd.ah y d hy2 hne
        have hux : u ≠ x := fun e' => by
          subst e'
          have h1 := hI.low u e g2 g3
          have h2 := hbet e g2
          omega
        refine ⟨u, r, e, ?_, hkeep u _ hux g2, ?_, g4, g5, ?_⟩
        · show (if y = x then (v : Int) else S.ah y) = (u : Int)
          rw [if_neg hyx]
          exact g1
        · show Hp.upd S.f x (some (k + w)) (u : Int) = none
          rw [upd_at, if_neg hux]
          exact g3
        · show (if y = x then h + 1 else S.hs y) = (if u = x then h + 1 else S.hs u) + 1
          rw [if_neg hyx, if_neg hux]
          exact g6
    · have hf' : Hp.upd S.f x (some (k + w)) (u : Int) = none := hf
      rw [upd_at] at hf'
      rcases hvs u d hu with ⟨rfl, rfl⟩ | ⟨hux, hu2⟩
      · rw [if_pos rfl] at hf'
        cases hf'
      · rw [if_neg hux] at hf'
        exact hI.low u d hu2 hf'
    · show Hp.upd S.f x (some (k + w)) (v : Int) = none
      rw [upd_at, if_neg hvx]
      exact hI.me.2.1
    · show (if v = x then h + 1 else S.hs v) = h
      rw [if_neg hvx]
      exact hI.me.2.2
  · rw [if_neg hb]
    exact hI
theorem Ahm.all {n : Nat} {zs : List (Int × Int × Int)} {s v : Nat} {k h : Int} (hz : Fine n zs) (hk : 0 ≤ k) : ∀ (m : List (Int × Int × Int)) (S : FS), Ahm zs s v k h S → (∀ a ∈ m, a ∈ zs ∧ a.1 = (v : Int)) → Ahm zs s v k h (m.foldl (relax1 v k h) S)
  | [], S, hI, _ => hI
  | a :: m, S, hI, hm => Ahm.all hz hk m _ (hI.next hz hk (hm a (by simp)).1 (hm a (by simp)).2) (fun b hb => hm b (by simp [hb]))
theorem Ahd.step {n : Nat} {zs : List (Int × Int × Int)} {hb : Int} {s t : Nat} {S : FS} (hz : Fine n zs) (hI : SInv n zs hb s t S) (hA : Ahd zs s S) {v : Nat} {k : Int} (hL : Hp.Least n S.f v k) : Ahd zs s (S.step zs hb v k) := by
  obtain ⟨hv, hf, _⟩ := hL
  have hme := hI.opn v k hv hf
  have hk := (hI.lab v k hme).1
  unfold FS.step
  split
  · refine (Ahm.all (n := n) hz hk _ _ ⟨hA.pop v, fun u d hu hfu => ?_, hme, ?_, rfl⟩ (fun a ha => (hz.arcRow_mem v a).1 ha)).ahd
    · have hfu' : Hp.upd S.f v none (u : Int) = none := hfu
      rw [upd_at] at hfu'
      by_cases e : u = v
      · subst e
        have hu' : S.vs[u]? = some (some d) := hu
        rw [hme] at hu'
        cases hu'
        exact Int.le_refl _
      · rw [if_neg e] at hfu'
        exact hI.mono u d v k hu hfu' hv hf
    · show Hp.upd S.f v none (v : Int) = none
      rw [upd_at, if_pos rfl]
  · exact hA.pop v
theorem steps_ahd {n : Nat} {zs : List (Int × Int × Int)} {hb mo : Int} {s : Nat} {S0 : FS} (hz : Fine n zs) (h0 : SInv n zs hb s 0 S0) (hA : Ahd zs s S0) : ∀ (t : Nat) (S : FS), Steps n zs hb mo S0 t S → Ahd zs s S
  | 0, S, h => by cases h; exact hA
  | t + 1, S, h => by
    obtain ⟨S1, v, k, h1, h2, _, rfl⟩ := h
    exact (steps_ahd hz h0 hA t S1 h1).step hz (steps_inv hz h0 t S1 h1) h2
theorem start_ahd {zs : List (Int × Int × Int)} {n s : Nat} (hs : s < n) (S : FS) : Ahd zs s (S.begin n s) := by
  have hone : ∀ (u : Nat) (d : Int), ((List.replicate n (none : Option Int)).set s (some (0 : Int)))[u]? = some (some d) → u = s := fun u d h => by
    rcases set_get h with ⟨e, _⟩ | ⟨_, h2⟩
    · exact e
    · rw [List.getElem?_replicate] at h2
      split at h2
      · cases h2
      · cases h2
  refine ⟨?_, ?_, fun x d hx hne => absurd (hone x d hx) hne⟩
  · show ((List.replicate n (none : Option Int)).set s (some (0 : Int)))[s]? = some (some 0)
    rw [List.getElem?_set]
    simp [hs]
  · show (if s = s then (0 : Int) else S.hs s) = 0
    rw [if_pos rfl]
/-- the way back: so many steps. -/
def backL (S : FS) : Nat → Nat → List Nat
  | x, 0 => [x]
  | x, m + 1 => x :: backL S (S.ah x).toNat m
theorem backL_len (S : FS) : ∀ (m x : Nat), (backL S x m).length = m + 1
  | 0, x => rfl
  | m + 1, x => by rw [backL, List.length_cons, backL_len S m]
theorem backL_head (S : FS) (m x : Nat) : (backL S x m)[0]? = some x := by
  cases m <;> rfl
/-- a walk, told from its end. -/
def PathTo (zs : List (Int × Int × Int)) (s : Nat) : List Nat → Int → Prop
  | [], _ => False
  | [x], d => x = s ∧ d = 0
  | x :: y :: r, d => ∃ w e, ((y : Int), (x : Int), w) ∈ zs ∧ d = e + w ∧ PathTo zs s (y :: r) e
theorem PathTo.cons {zs : List (Int × Int × Int)} {s x y : Nat} {l : List Nat} {d w e : Int} (hl : l[0]? = some y) (hw : ((y : Int), (x : Int), w) ∈ zs) (hd : d = e + w) (h : PathTo zs s l e) : PathTo zs s (x :: l) d := by
  cases l with
  | nil => simp at hl
  | cons z r =>
    obtain rfl : z = y := by simpa using hl
    exact ⟨w, e, hw, hd, h⟩
theorem Ahd.back {n : Nat} {zs : List (Int × Int × Int)} {hb : Int} {s t : Nat} {S : FS} (hI : SInv n zs hb s t S) (hA : Ahd zs s S) : ∀ (m x : Nat) (d : Int), S.vs[x]? = some (some d) → S.hs x = (m : Int) → PathTo zs s (backL S x m) d
  | 0, x, d, hx, hm => by
    by_cases e : x = s
    · subst e
      rw [hA.src] at hx
      cases hx
      exact ⟨rfl, rfl⟩
    · obtain ⟨u, r, e', _, g2, _, _, _, g6⟩ := hA.ah x d hx e
      have := (hI.lab u e' g2).2.2.1
      omega
  | m + 1, x, d, hx, hm => by
    have e : x ≠ s := fun e => by
      subst e
      have := hA.hop
      omega
    obtain ⟨u, r, e', g1, g2, _, g4, g5, g6⟩ := hA.ah x d hx e
    have h := Ahd.back hI hA m u e' g2 (by omega)
    rw [backL, g1, Int.toNat_natCast]
    exact PathTo.cons (backL_head S m u) g4 g5 h
end Go.Proofs.Ytefcmpdnlbpjpaa

namespace Go.Proofs.Ytefcmpdnlbpjpaa
end Go.Proofs.Ytefcmpdnlbpjpaa

namespace Go.Proofs.Ytefcmpdnlbpjpaa
open Go.RowKit Go.Extern

attribute [local go_sem] Oper.semAt_some

/-- the nodes of a way back, as numbers. -/
def nums (l : List Nat) : List Int := l.map fun (x : Nat) => Int.ofNat x
theorem nums_len (l : List Nat) : (nums l).length = l.length := by unfold nums; rw [List.length_map]
theorem take_nat {l : List Nat} {i : Nat} {x : Nat} (h : l[i]? = some x) : l.take (i + 1) = l.take i ++ [x] := by
  rw [List.take_add_one, h]; rfl
/-- how long a list is. -/
def lenV : Value → Nat
  | .slice _ n _ => n
  | _ => 0
theorem Ahd.at_ {n : Nat} {zs : List (Int × Int × Int)} {hb : Int} {s t : Nat} {S : FS} (hI : SInv n zs hb s t S) (hA : Ahd zs s S) : ∀ (m x : Nat) (d : Int), S.vs[x]? = some (some d) → S.hs x = (m : Int) → ∀ (j y : Nat), (backL S x m)[j]? = some y → ∃ e, S.vs[y]? = some (some e) ∧ S.hs y = (m : Int) - j
  | 0, x, d, hx, hm, j, y, hy => by
    rcases j with _ | j
    · obtain rfl : x = y := by simpa [backL] using hy
      exact ⟨d, hx, by omega⟩
    · simp [backL] at hy
  | m + 1, x, d, hx, hm, j, y, hy => by
    rcases j with _ | j
    · obtain rfl : x = y := by simpa [backL] using hy
      exact ⟨d, hx, by omega⟩
    · have e : x ≠ s := fun e => by
        subst e
        have := hA.hop
        omega
      obtain ⟨u, r, e', g1, g2, _, g4, g5, g6⟩ := hA.ah x d hx e
      rw [backL, g1, Int.toNat_natCast, List.getElem?_cons_succ] at hy
      obtain ⟨e2, h1, h2⟩ := Ahd.at_ hI hA m u e' g2 (by omega) j y hy
      exact ⟨e2, h1, by omega⟩
theorem backL_next (S : FS) : ∀ (m x j y : Nat), (backL S x m)[j]? = some y → j < m → (backL S x m)[j + 1]? = some (S.ah y).toNat
  | 0, _, _, _, _, h => by omega
  | m + 1, x, 0, y, hy, _ => by
    obtain rfl : x = y := by simpa [backL] using hy
    rw [backL, List.getElem?_cons_succ]
    exact backL_head S m _
  | m + 1, x, j + 1, y, hy, h => by
    rw [backL, List.getElem?_cons_succ] at hy ⊢
    exact backL_next S m _ j y hy (by omega)
theorem own_one (w : World) (x : Int) : (w.alloc (.cells #[.int .i64 x] 3)).ownsRow w.heap.size 3 1 (.slice (some ⟨w.heap.size, 0, none⟩) 1 1) 1 (iv [x]) :=
  ⟨rfl, Or.inr ⟨w.heap.size, 1, #[.int .i64 x], rfl, Nat.le_refl _, heap_new _ _, Nat.le_refl _, by unfold maxLen; omega, rfl, rfl⟩⟩

set_option maxRecDepth 100000 in
set_option maxHeartbeats 4000000 in
theorem pathBack_calls {B : Nat} {w : World} {n : Nat} {L : FL} {c0 c1 c2 sv : Value} {S : FS} {zs : List (Int × Int × Int)} {hb : Int} {s t : Nat} (hF : Fnd B w n L c0 c1 c2 sv S) (hI : SInv n zs hb s t S) (hA : Ahd zs s S) (x m : Nat) (d : Int) (hx : S.vs[x]? = some (some d)) (hm : S.hs x = (m : Int)) (ht : t ≤ n) (hn : n ≤ 65536) :
    Calls Try.prog 28 #[.pointer (some ⟨L.fi, 0, none⟩), .int .i64 x, .int .i64 s] w fun e w' => ∃ po pc, e = .returned (.slice po (m + 1) pc) ∧ w'.ownsRow w.heap.size 3 1 (.slice po (m + 1) pc) (m + 1) (iv (nums (backL S x m)).reverse) ∧ Below w.heap.size w w' := by
  have hmt : m ≤ 65536 := by have := (hI.lab x d hx).2.2.2.1; omega
  have hl0 := lt_of_get hF.box
  have hl1 := hF.ahead.lt
  have HK : Hid (∀ wx, Below w.heap.size w wx → wx.cell? ⟨L.fi, 5, none⟩ = some (.slice (some ⟨L.ab, 0, none⟩) n n) ∧ L.fi < wx.heap.size ∧ L.ab < wx.heap.size ∧ ∀ u, u < n → wx.cell? ⟨L.ab, u, none⟩ = some (.int .i64 (S.ah u))) := fun wx h => by
    have g := (h.block _ hl0).trans hF.box
    refine ⟨by simp [World.cell?, g], lt_of_get g, Nat.lt_of_lt_of_le hl1 h.size, fun u hu => ?_⟩
    exact (h.cell (p := ⟨L.ab, u, none⟩) hl1).trans (hF.ahead.cell hu)
  have HAT : Hid (∀ (j y : Nat), (backL S x m)[j]? = some y → y < n ∧ (y = s ↔ j = m) ∧ (y ≠ s → j < m ∧ S.ah y = ((S.ah y).toNat : Int) ∧ (backL S x m)[j + 1]? = some (S.ah y).toNat)) := fun j y hy => by
    obtain ⟨e, h1, h2⟩ := hA.at_ hI m x d hx hm j y hy
    have hyl := (List.getElem?_eq_some_iff.1 h1).1
    have hjl := (List.getElem?_eq_some_iff.1 hy).1
    rw [backL_len] at hjl
    have h3 : y ≠ s → j < m ∧ S.ah y = ((S.ah y).toNat : Int) := fun hne => by
      obtain ⟨u, r, e', g1, g2, _, _, _, g6⟩ := hA.ah y e h1 hne
      have := (hI.lab u e' g2).2.2.1
      exact ⟨by omega, by rw [g1, Int.toNat_natCast]⟩
    refine ⟨by rw [← hI.lv]; exact hyl, ⟨fun e => ?_, fun e => ?_⟩, fun hne => ⟨(h3 hne).1, (h3 hne).2, backL_next S m x j y hy (h3 hne).1⟩⟩
    · subst e
      have := hA.hop
      omega
    · by_cases hne : y = s
      · exact hne
      · have := (h3 hne).1
        omega
  obtain ⟨P, hP⟩ : ∃ P, backL S x m = P := ⟨_, rfl⟩
  have HPL : Hid (P.length = m + 1 ∧ P[0]? = some x) := by
    show _ ∧ _
    rw [← hP]
    exact ⟨backL_len S m x, backL_head S m x⟩
  rw [hP] at HAT ⊢
  obtain ⟨i0, hi, hz0, hz1, hz2⟩ : ∃ i, Try.prog.info? 3 = some i ∧ i.zero = some (.int .i64 0) ∧ i.size = 1 ∧ i.bytes = 8 := by
    have h := infoJ
    cases hi : Try.prog.info? 3 with
    | none => rw [hi] at h; cases h
    | some i => rw [hi] at h; simp at h; exact ⟨i, rfl, h.1, h.2.1, h.2.2⟩
  have HO : Hid ((w.alloc (.cells #[.int .i64 (x : Int)] 3)).ownsRow w.heap.size 3 1 (.slice (some ⟨w.heap.size, 0, none⟩) 1 1) 1 (iv [(x : Int)])) := own_one w x
  have HB0 : Hid (Below w.heap.size w (w.alloc (.cells #[.int .i64 (x : Int)] 3))) := (Below.refl _ w).alloc (Nat.le_refl _) _
  clear hF hI hA hx hm hP hl0 hl1
  go_enter Try.func28, Try.ntmps28
  go_wp2_with fail
  go_loopw [7, 8] (fun pv vv wr => ∃ (j y : Nat) (po : Option Addr) (pc : Nat), P[j]? = some y ∧ vv = .int .i64 y ∧ pv = .slice po (j + 1) pc ∧ wr.ownsRow w.heap.size 3 1 (.slice po (j + 1) pc) (j + 1) (iv (nums (P.take (j + 1)))) ∧ Below w.heap.size w wr) (fun pv _ _ => m + 1 - lenV pv)
  case atStart =>
    refine ⟨0, x, _, _, HPL.out.2, rfl, rfl, ?_, HB0.out⟩
    have e : nums (P.take 1) = [(x : Int)] := by
      rw [show (1 : Nat) = 0 + 1 from rfl, take_nat HPL.out.2]
      rfl
    rw [e]
    exact HO.out
  case round =>
    obtain ⟨j, y, po, pc, hy, rfl, rfl, hrow, hbe⟩ := hrel
    have HI : Hid (wr.ownsRow w.heap.size 3 1 (.slice po (j + 1) pc) (j + 1) (iv (nums (P.take (j + 1)))) ∧ Below w.heap.size w wr ∧ P[j]? = some y) := ⟨hrow, hbe, hy⟩
    obtain ⟨y1, y2, y3⟩ := HAT.out j y hy
    have hjl := (List.getElem?_eq_some_iff.1 hy).1
    rw [HPL.out.1] at hjl
    by_cases hys : y = s
    · have hjm := y2.1 hys
      have k1 : ((y : Int) != (s : Int)) = false := by rw [hys]; simp
      have HJM : Hid (j = m ∧ y = s) := ⟨hjm, hys⟩
      have HLN : Hid ((nums (P.take (j + 1))).length = j + 1) := by
        show _ = _
        rw [nums_len, List.length_take, HPL.out.1]
        omega
      have HRV : Hid (Calls Try.prog 55 #[.slice po (j + 1) pc] wr fun e w' => e = .returned (.tuple #[]) ∧ w'.ownsRow w.heap.size 3 1 (.slice po (j + 1) pc) (j + 1) (iv (nums (P.take (j + 1))).reverse) ∧ wr.grownBy w' (Value.slice po (j + 1) pc).ownBlock) := by
        have h := reverse_any w.heap.size pc po (nums (P.take (j + 1))) wr (by rw [HLN.out]; exact hrow) (by rw [HLN.out]; omega) (Nat.le_refl _)
        rw [HLN.out] at h
        exact h
      clear hrow hbe hy y1 y2 y3 hys hjm hjl
      go_wp2_with fail
      refine HRV.out.mono ?_
      rintro e w2 ⟨rfl, ho, hg⟩
      have H2 : Hid (w2.ownsRow w.heap.size 3 1 (.slice po (j + 1) pc) (j + 1) (iv (nums (P.take (j + 1))).reverse) ∧ Below w.heap.size w w2) := ⟨ho, below_g HI.out.2.1 hg (fun k e => (HI.out.1.lt k e.symm).1)⟩
      clear ho hg
      go_wp2
      go_ret
      obtain ⟨rfl, _⟩ := HJM.out
      refine ⟨po, pc, rfl, ?_, H2.out.2⟩
      have h := H2.out.1
      rw [← HPL.out.1, List.take_length, HPL.out.1] at h
      exact h
    · obtain ⟨z1, z2, z3⟩ := y3 hys
      have k1 : ((y : Int) != (s : Int)) = true := by
        have : ¬ (y : Int) = (s : Int) := by omega
        simpa using this
      obtain ⟨q0, q1, q2, q3⟩ := HK.out wr hbe
      have q4 := q3 y y1
      obtain ⟨u, hu⟩ : ∃ u, (S.ah y).toNat = u := ⟨_, rfl⟩
      rw [hu] at z2 z3
      rw [z2] at q4
      have i1 : (y : Int) < (n : Int) := by omega
      have i2 : (0 : Int) ≤ (y : Int) := by omega
      have HTK : Hid (iv (nums (P.take (j + 1 + 1))) = iv (nums (P.take (j + 1))) ++ [.int .i64 (u : Int)]) := by
        show iv _ = _
        rw [take_nat z3, nums, List.map_append]
        exact iv_append _ _
      have HZ3 : Hid (P[j + 1]? = some u ∧ j < m) := ⟨z3, z1⟩
      clear hrow hbe hy y2 y3 q3 z2 z3 hys hu
      go_wp2_with (at_builtin; refine wpList_append_own _ rfl _ _ 25 rfl w.heap.size 3 i0 (.int .i64 0) 1 8 Try.underlying25 hi hz0 hz1 hz2 rfl (by decide) (.slice po (j + 1) pc) (j + 1) (iv (nums (P.take (j + 1)))) rfl (iown_alloc HI.out.1 _) ⟨wr.heap.size, 0, none⟩ 1 1 [.int .i64 (u : Int)] rfl rfl (cell_one1 _ _) (by intro x hx; simp at hx; subst hx; rfl) (by unfold maxLen; omega) (by omega) (by have h1 := HI.out.2.1.size; simp; omega) ?_; intro v' w2 hown2 hgrow2 _; have HR2 : Hid (w2.ownsRow w.heap.size 3 1 v' (j + 1 + 1) (iv (nums (P.take (j + 1))) ++ [.int .i64 (u : Int)])) := hown2; have HG2 : Hid ((wr.alloc (.cells #[.int .i64 (u : Int)] 3)).grownBy w2 (Value.slice po (j + 1) pc).ownBlock) := hgrow2; clear hown2 hgrow2; obtain ⟨vo, vc, hv2⟩ := iown_slice HR2.out; subst hv2)
      have hrow := iown_alloc HI.out.1 (.cells #[.int .i64 (u : Int)] 3)
      refine ⟨⟨j + 1, u, vo, vc, HZ3.out.1, rfl, rfl, ?_, below_g (HI.out.2.1.alloc HI.out.2.1.size _) HG2.out (fun k e => (hrow.lt k e.symm).1)⟩, ?_⟩
      · rw [HTK.out]; exact HR2.out
      · have := HZ3.out.2
        simp only [lenV]
        omega
end Go.Proofs.Ytefcmpdnlbpjpaa

namespace Go.Proofs.Ytefcmpdnlbpjpaa
open Go.RowKit Go.Extern

attribute [local go_sem] Oper.semAt_some

theorem ints_two (w : World) (x y : Int) : HasInts (w.alloc (.cells #[.int .i64 x, .int .i64 y] 3)) (.slice (some ⟨w.heap.size, 0, none⟩) 2 2) [x, y] := by
  have h := heap_new w (.cells #[.int .i64 x, .int .i64 y] 3)
  have hl := lt_of_get h
  generalize w.alloc (.cells #[.int .i64 x, .int .i64 y] 3) = W at *
  refine ⟨_, _, rfl, fun j a hj => ?_⟩
  rcases j with _ | _ | j
  · cases hj
    exact ⟨_, _, rfl, hl, by simp [World.cell?, h]⟩
  · cases hj
    exact ⟨_, _, rfl, hl, by simp [World.cell?, h]⟩
  · simp at hj
theorem backL_nodup {n : Nat} {zs : List (Int × Int × Int)} {hb : Int} {s t : Nat} {S : FS} (hI : SInv n zs hb s t S) (hA : Ahd zs s S) {m x : Nat} {d : Int} (hx : S.vs[x]? = some (some d)) (hm : S.hs x = (m : Int)) : (backL S x m).Nodup := by
  rw [List.nodup_iff_pairwise_ne, List.pairwise_iff_getElem]
  intro i j hi hj hij e
  obtain ⟨_, _, h1⟩ := Ahd.at_ hI hA m x d hx hm i _ (List.getElem?_eq_getElem hi)
  obtain ⟨_, _, h2⟩ := Ahd.at_ hI hA m x d hx hm j _ (List.getElem?_eq_getElem hj)
  rw [e] at h1
  omega
/-- what Path answers. -/
def PathAns (w : World) (n : Nat) (zs : List (Int × Int × Int)) (s t : Nat) (e : Ending) (w' : World) : Prop :=
  ∃ D, IsDist n zs s D ∧ ((D[t]? = some 18446744073709551615 ∧ e = .returned (.tuple #[.slice none 0 0, .iface 59 (.int .i64 16)])) ∨
    (∃ (P : List Nat) (d : Int) (po : Option Addr) (pc : Nat), D[t]? = some d ∧ d ≠ 18446744073709551615 ∧ PathTo zs s P d ∧ P[0]? = some t ∧ (P.Nodup ∧ P.length ≤ n + 1) ∧ e = .returned (.tuple #[.slice po P.length pc, .nilIface]) ∧ w'.ownsRow w.heap.size 3 1 (.slice po P.length pc) P.length (iv (nums P).reverse)))

set_option maxRecDepth 100000 in
set_option maxHeartbeats 4000000 in
theorem path_good (n : Nat) (zs : List (Int × Int × Int)) (fo uo wo : Option Addr) (fc tc wc : Nat) (w : World) (hz : Fine n zs) (h : CsrIn w n zs fo uo wo fc tc wc) (s t : Nat) (hs : s < n) (htn : t < n) :
    Calls Try.prog 11 #[.agg #[.slice fo (n + 1) fc, .slice uo zs.length tc, .slice wo zs.length wc], .int .i64 s, .int .i64 t] w fun e w' => PathAns w n zs s t e w' ∧ Below w.heap.size w w' := by
  obtain ⟨W0, hW0⟩ : ∃ W0, (w.alloc (.cells #[.slice fo (n + 1) fc, .slice uo zs.length tc, .slice wo zs.length wc] 27)).alloc (.cells #[.int .i64 s, .int .i64 t] 3) = W0 := ⟨_, rfl⟩
  have HW0 : Hid ((w.alloc (.cells #[.slice fo (n + 1) fc, .slice uo zs.length tc, .slice wo zs.length wc] 27)).alloc (.cells #[.int .i64 s, .int .i64 t] 3) = W0) := hW0
  have hB0 : Below w.heap.size w W0 := by rw [← hW0]; exact ((Below.refl _ w).alloc (Nat.le_refl _) _).alloc (by simp) _
  have hI : HasInts W0 (.slice (some ⟨w.heap.size + 1, 0, none⟩) 2 2) [(s : Int), (t : Int)] := by
    have := ints_two (w.alloc (.cells #[.slice fo (n + 1) fc, .slice uo zs.length tc, .slice wo zs.length wc] 27)) (s : Int) (t : Int)
    rw [hW0] at this
    simpa using this
  have HC : Hid (∀ wx, Below w.heap.size w wx → CsrIn wx n zs fo uo wo fc tc wc) := fun wx hb => h.keep hb
  have HNF : Hid (Calls Try.prog 21 #[.agg #[.slice fo (n + 1) fc, .slice uo zs.length tc, .slice wo zs.length wc], .slice (some ⟨w.heap.size + 1, 0, none⟩) 2 2] W0 fun e w' => ∃ L S, e = .returned (.tuple #[.pointer (some ⟨L.fi, 0, none⟩), .nilIface]) ∧ Fnd W0.heap.size w' n L (.slice fo (n + 1) fc) (.slice uo zs.length tc) (.slice wo zs.length wc) (.slice none 0 0) S ∧ Below W0.heap.size W0 w') := newFinder_good n zs fo uo wo fc tc wc W0 hz (h.keep hB0) (some ⟨w.heap.size + 1, 0, none⟩) 2 [(s : Int), (t : Int)] hI (by simp) (fun v hv => by simp at hv; omega)
  have HZ : Hid (Fine n zs) := hz
  have HB0 : Hid (Below w.heap.size w W0) := hB0
  have hn := hz.few
  clear hW0 hB0 hI h hz
  go_enter Try.func11, Try.ntmps11
  go_wp2_with fail
  rw [HW0.out]
  refine HNF.out.mono ?_
  rintro e w1 ⟨L, S, rfl, hF, hb1⟩
  have H1 : Hid (Fnd W0.heap.size w1 n L (.slice fo (n + 1) fc) (.slice uo zs.length tc) (.slice wo zs.length wc) (.slice none 0 0) S ∧ Below W0.heap.size W0 w1) := ⟨hF, hb1⟩
  clear hF hb1
  go_wp2_with fail
  refine (noBounds_calls w1).mono ?_
  rintro e w2 ⟨rfl, hb2⟩
  have H2 : Hid (Fnd W0.heap.size w2 n L (.slice fo (n + 1) fc) (.slice uo zs.length tc) (.slice wo zs.length wc) (.slice none 0 0) S ∧ Below W0.heap.size W0 w2) := ⟨H1.out.1.below hb2, H1.out.2.trans (hb2.mono H1.out.2.size)⟩
  clear hb2
  go_wp2_with fail
  refine (run_calls H2.out.1 H2.out.2.size HZ.out (fun wx hx => HC.out wx (btr HB0.out (H2.out.2.trans hx))) s hs _ _ _).mono ?_
  rintro e w3 ⟨rfl, ⟨sv3, k, S3, h1, h2, h3, h4⟩, hb3⟩
  have hI0 : SInv n zs 9223372036854775807 s 0 (S.begin n s) := start_inv hs _ rfl rfl
  have hI := steps_inv HZ.out hI0 k S3 h3
  have hk := steps_le HZ.out hI0 h3
  have hA := steps_ahd HZ.out hI0 (start_ahd hs S) k S3 h3
  have hD : IsDist n zs s ((List.range n).map fun v => farOr S3.vs[v]?) := by
    refine hI.dist HZ.out hk (by omega) ?_
    rcases h4 with h | h | ⟨v, k', hL, h⟩
    · omega
    · exact h.1
    · obtain ⟨a1, a2, a3, a4, a5⟩ := hI.lab v k' (hI.opn v k' hL.1 hL.2.1)
      omega
  have H3 : Hid (Fnd W0.heap.size w3 n L (.slice fo (n + 1) fc) (.slice uo zs.length tc) (.slice wo zs.length wc) sv3 S3 ∧ Below W0.heap.size W0 w3) := ⟨h1, H2.out.2.trans hb3⟩
  have HS : Hid (SInv n zs 9223372036854775807 s k S3 ∧ Ahd zs s S3 ∧ IsDist n zs s ((List.range n).map fun v => farOr S3.vs[v]?) ∧ k ≤ n) := ⟨hI, hA, hD, hk⟩
  have HVL : Hid (S3.vs.length = n) := h1.st.lt.2.2.2.1
  clear h1 h2 h3 h4 hb3 hI0 hI hk hA hD
  obtain ⟨o, ho⟩ : ∃ o, S3.vs[t]? = some o := ⟨S3.vs[t]'(by rw [HVL.out]; exact htn), List.getElem?_eq_getElem _⟩
  have k3 : w3.cell? ⟨L.fi, 3, none⟩ = some (.pointer (some ⟨L.sb, 0, none⟩)) := H3.out.1.box7.2.2.2.1
  have kl := H3.out.1.lts.1
  have HO : Hid (S3.vs[t]? = some o) := ho
  have HDT : Hid (((List.range n).map fun v => farOr S3.vs[v]?)[t]? = some (farOr (some o))) := by
    show _ = _
    rw [List.getElem?_map, List.getElem?_range htn]
    simp [ho]
  clear ho
  go_wp2_with fail
  refine (St.get_in H3.out.1.st t o HO.out).mono ?_
  rintro e w5 ⟨rfl, hb5⟩
  have G5 : Hid (Fnd W0.heap.size w5 n L (.slice fo (n + 1) fc) (.slice uo zs.length tc) (.slice wo zs.length wc) sv3 S3 ∧ Below w.heap.size w w5) := ⟨H3.out.1.below hb5, btr HB0.out (H3.out.2.trans (hb5.mono H3.out.2.size))⟩
  clear hb5 k3 kl
  cases o with
  | none =>
    simp only [St.gotV]
    go_wp2
    go_ret2
    exact ⟨⟨_, HS.out.2.2.1, Or.inl ⟨HDT.out, rfl⟩⟩, G5.out.2⟩
  | some d =>
    obtain ⟨l1, l2, l3, l4, l5⟩ := HS.out.1.lab t d HO.out
    obtain ⟨m, hm⟩ := Int.eq_ofNat_of_zero_le l3
    have HPB : Hid (type_of% (pathBack_calls G5.out.1 HS.out.1 HS.out.2.1 t m d HO.out hm HS.out.2.2.2 hn)) := pathBack_calls G5.out.1 HS.out.1 HS.out.2.1 t m d HO.out hm HS.out.2.2.2 hn
    have HPT : Hid (PathTo zs s (backL S3 t m) d ∧ (backL S3 t m).length = m + 1 ∧ (backL S3 t m)[0]? = some t ∧ d ≠ 18446744073709551615) := ⟨HS.out.2.1.back HS.out.1 m t d HO.out hm, backL_len _ _ _, backL_head _ _ _, by have := HS.out.2.2.2; omega⟩
    have HND : Hid ((backL S3 t m).Nodup ∧ m ≤ n) := ⟨backL_nodup HS.out.1 HS.out.2.1 HO.out hm, by have := HS.out.2.2.2; omega⟩
    clear l1 l2 l3 l4 l5 hm
    simp only [St.gotV]
    go_wp2_with fail
    refine HPB.out.mono ?_
    rintro e w6 ⟨po, pc, rfl, ho, hb6⟩
    have H6 : Hid (w6.ownsRow w.heap.size 3 1 (.slice po (m + 1) pc) (m + 1) (iv (nums (backL S3 t m)).reverse) ∧ Below w.heap.size w w6) := ⟨iown_base ho G5.out.2.size, btr G5.out.2 hb6⟩
    clear ho hb6
    go_wp2
    go_ret2
    refine ⟨⟨_, HS.out.2.2.1, Or.inr ⟨backL S3 t m, d, po, pc, HDT.out, HPT.out.2.2.2, HPT.out.1, HPT.out.2.2.1, ⟨HND.out.1, by rw [HPT.out.2.1]; have := HND.out.2; omega⟩, ?_, ?_⟩⟩, H6.out.2⟩
    · exact congrArg (fun q : Nat => Ending.returned (.tuple #[.slice po q pc, .nilIface])) HPT.out.2.1.symm
    · rw [HPT.out.2.1]
      exact H6.out.1
end Go.Proofs.Ytefcmpdnlbpjpaa
