/- check and Find, walked: what a witness search answers. The bounded search as a function; Find, walked. -/
import Derived.Test.YtbkclhaonbjobaaGreatWtO
import Derived.Test.YtbkclhaonbjobaaGreatWtZ
namespace Go.Proofs.YtbkclhaonbjobaaGreat.Wt
open Go Go.RowKit Go.Extern

attribute [local go_sem] Oper.semAt_some

/-- the first goal that isn't alive. -/
def goalsErr (al : Int → Bool) : List Int → Nat → Int × List (Int × Int)
  | [], _ => (0, [])
  | g :: r, i => if al g then goalsErr al r (i + 1) else (7, [(3, (i : Int))])
def findErr (al : Int → Bool) (u : Int) (gs : List Int) : Int × List (Int × Int) := if al u then goalsErr al gs 0 else (7, [])
theorem goalsErr_step {al : Int → Bool} {gs : List Int} {i : Nat} {g : Int} (h : gs[i]? = some g) (ha : al g = true) : goalsErr al (gs.drop i) i = goalsErr al (gs.drop (i + 1)) (i + 1) := by
  obtain ⟨hl, hx⟩ := List.getElem?_eq_some_iff.1 h
  rw [List.drop_eq_getElem_cons hl, hx]
  show (if al g = true then goalsErr al (gs.drop (i + 1)) (i + 1) else (7, [(3, (i : Int))])) = _
  rw [if_pos ha]
theorem goalsErr_bad {al : Int → Bool} {gs : List Int} {i : Nat} {g : Int} (h : gs[i]? = some g) (ha : al g = false) : goalsErr al (gs.drop i) i = (7, [(3, (i : Int))]) := by
  obtain ⟨hl, hx⟩ := List.getElem?_eq_some_iff.1 h
  rw [List.drop_eq_getElem_cons hl, hx]
  show (if al g = true then goalsErr al (gs.drop (i + 1)) (i + 1) else (7, [(3, (i : Int))])) = _
  rw [if_neg (by rw [ha]; simp)]
theorem goalsErr_ok {al : Int → Bool} : ∀ {gs : List Int} {i : Nat}, goalsErr al gs i = (0, []) → ∀ g ∈ gs, al g = true
  | [], _, _, g, hg => by cases hg
  | a :: r, i, h, g, hg => by
    unfold goalsErr at h
    split at h
    · rename_i ha
      rcases List.mem_cons.1 hg with rfl | hg
      · exact ha
      · exact goalsErr_ok h g hg
    · have := congrArg Prod.fst h
      simp at this
set_option maxRecDepth 100000 in
set_option maxHeartbeats 4000000 in
theorem wcheck_calls (oa : Addr) (u : Int) (go : Option Addr) (gc : Nat) (gs : List Int) (al : Int → Bool) (w : World) (hg : HasInts w (.slice go gs.length gc) gs) (hl : gs.length ≤ 1000000) (hal : ∀ wx, Below w.heap.size w wx → ∀ x : Int, Calls Tryz.prog 9 #[.pointer (some oa), .int .i64 x] wx fun e w' => e = .returned (.bool (al x)) ∧ w' = wx) :
    Calls Tryz.prog 88 #[.pointer (some oa), .int .i64 u, .slice go gs.length gc] w fun e w' => ∃ v, e = .returned v ∧ IsTold w' (findErr al u gs) v ∧ Below w.heap.size w w' := by
  have HA : Hid (type_of% hal) := hal
  have HG : Hid (HasInts w (.slice go gs.length gc) gs ∧ gs.length ≤ 1000000) := ⟨hg, hl⟩
  have HA0 : Hid (type_of% (hal w (Below.refl _ _) u)) := hal w (Below.refl _ _) u
  obtain ⟨r, hr⟩ : ∃ r, findErr al u gs = r := ⟨_, rfl⟩
  rw [hr]
  have HR : Hid (findErr al u gs = r) := hr
  clear hal hg hl hr
  go_enter Tryz.func88, Tryz.ntmps88
  go_wp2_with fail
  refine HA0.out.mono ?_
  rintro e y1 ⟨rfl, rfl⟩
  cases hu : al u with
  | false =>
    have HF : Hid (IsTold y1 r (.iface 104 (.int .i64 7))) := by
      rw [← HR.out]
      unfold findErr
      rw [if_neg (by rw [hu]; simp)]
      exact Or.inr ⟨by simp, rfl⟩
    clear hu HA0
    go_wp2
    go_ret
    exact ⟨_, rfl, HF.out, Below.refl _ _⟩
  | true =>
    have HR2 : Hid (goalsErr al gs 0 = r) := by
      rw [← HR.out]
      show _ = _
      unfold findErr
      rw [if_pos hu]
    clear hu HA0
    go_wp2_with fail
    go_loopw [19] (fun iv wr => ∃ i : Nat, iv = .int .i64 i ∧ i ≤ gs.length ∧ goalsErr al (gs.drop i) i = r ∧ Below y1.heap.size y1 wr) (fun iv _ => gs.length - (intOf iv).toNat)
    case atStart => exact ⟨0, rfl, Nat.zero_le _, HR2.out, Below.refl _ _⟩
    case round =>
      obtain ⟨i, rfl, hi, he, hb⟩ := hrel
      have HE : Hid (goalsErr al (gs.drop i) i = r ∧ Below y1.heap.size y1 wr) := ⟨he, hb⟩
      clear he
      by_cases hlt : i < gs.length
      · obtain ⟨g, hgi⟩ : ∃ g, gs[i]? = some g := ⟨gs[i], List.getElem?_eq_getElem hlt⟩
        obtain ⟨b, off, hgo, bl, p0⟩ := (HG.out.1.keep hb).at hgi
        subst hgo
        have HGI : Hid (gs[i]? = some g) := hgi
        have i1 : (i : Int) < (gs.length : Int) := by omega
        have i2 : (0 : Int) ≤ (i : Int) := by omega
        have ib : i < 1000000 := by have := HG.out.2; omega
        have HAL : Hid (type_of% (HA.out wr hb g)) := HA.out wr hb g
        clear hgi hb
        go_wp2_with fail
        refine HAL.out.mono ?_
        rintro e y2 ⟨rfl, rfl⟩
        cases hag : al g with
        | true =>
          have HN : Hid (goalsErr al (gs.drop (i + 1)) (i + 1) = r) := by rw [← HE.out.1]; exact (goalsErr_step HGI.out hag).symm
          clear hag HAL
          go_wp2
          go_roundw
          case rel => exact ⟨i + 1, by go_num, by omega, HN.out, HE.out.2⟩
          case measure => simp [intOf]; omega
        | false =>
          have HN : Hid (r = (7, [(3, (i : Int))])) := HE.out.1.symm.trans (goalsErr_bad HGI.out hag)
          clear hag HAL
          go_wp2_with (go_at_call 60; refine (at_some 3 (i : Int) 104 (.int .i64 7) _).mono ?_; rintro e w' ⟨rfl, rfl⟩)
          go_ret
          refine ⟨_, rfl, ?_, HE.out.2.alloc HE.out.2.size _⟩
          rw [HN.out]
          exact Or.inr ⟨by simp, ⟨_, _, rfl, heap_new _ _, rfl⟩⟩
      · obtain rfl : i = gs.length := by omega
        have HN : Hid (r = (0, [])) := by
          have := HE.out.1
          rw [List.drop_length] at this
          exact this.symm
        clear hb
        go_wp2
        go_ret
        refine ⟨_, rfl, ?_, HE.out.2⟩
        rw [HN.out]
        exact Or.inl ⟨rfl, rfl⟩
end Go.Proofs.YtbkclhaonbjobaaGreat.Wt

namespace Go.Proofs.YtbkclhaonbjobaaGreat.Wt
open Go Go.RowKit Go.Extern

attribute [local go_sem] Oper.semAt_some

/-- the open node that is settled next. -/
def leastF (f : Int → Option Int) : Nat → Option (Nat × Int)
  | 0 => none
  | n + 1 => match leastF f n, f (n : Int) with
    | none, none => none
    | none, some k => some (n, k)
    | some p, none => some p
    | some p, some k => if k < p.2 then some (n, k) else some p
theorem leastF_some {f : Int → Option Int} : ∀ {n : Nat} {v : Nat} {k : Int}, leastF f n = some (v, k) → Least n f v k
  | 0, v, k, h => by cases h
  | n + 1, v, k, h => by
    have hns : ∀ (e : Nat), e < n + 1 → e < n ∨ e = n := fun e he => by omega
    unfold leastF at h
    cases hp : leastF f n with
    | none =>
      rw [hp] at h
      cases hk : f (n : Int) with
      | none => rw [hk] at h; cases h
      | some j =>
        rw [hk] at h
        cases h
        refine ⟨by omega, hk, fun e j he hj => ?_⟩
        rcases hns e he with h1 | rfl
        · exact absurd hj (by rw [leastF_none hp e h1]; simp)
        · rw [hk] at hj; cases hj
          exact ltT_self _
    | some p =>
      obtain ⟨v0, k0⟩ := p
      obtain ⟨l1, l2, l3⟩ := leastF_some hp
      rw [hp] at h
      cases hk : f (n : Int) with
      | none =>
        rw [hk] at h
        cases h
        refine ⟨by omega, l2, fun e j he hj => ?_⟩
        rcases hns e he with h1 | rfl
        · exact l3 e j h1 hj
        · rw [hk] at hj; cases hj
      | some j0 =>
        rw [hk] at h
        simp only at h
        split at h
        · rename_i hlt
          cases h
          refine ⟨by omega, hk, fun e j he hj => ?_⟩
          rcases hns e he with h1 | rfl
          · have := l3 e j h1 hj
            unfold ltT at *
            simp only at *
            omega
          · rw [hk] at hj; cases hj
            exact ltT_self _
        · rename_i hlt
          cases h
          refine ⟨by omega, l2, fun e j he hj => ?_⟩
          rcases hns e he with h1 | rfl
          · exact l3 e j h1 hj
          · rw [hk] at hj; cases hj
            unfold ltT
            simp only
            omega
where
  leastF_none {f : Int → Option Int} : ∀ {n : Nat}, leastF f n = none → ∀ e : Nat, e < n → f (e : Int) = none
  | 0, _, e, he => by omega
  | n + 1, h, e, he => by
    unfold leastF at h
    cases hp : leastF f n with
    | none =>
      rw [hp] at h
      cases hk : f (n : Int) with
      | none =>
        rcases (show e < n ∨ e = n by omega) with h1 | rfl
        · exact leastF_none hp e h1
        · exact hk
      | some j => rw [hk] at h; cases h
    | some p =>
      rw [hp] at h
      cases hk : f (n : Int) with
      | none => rw [hk] at h; cases h
      | some j =>
        rw [hk] at h
        simp only at h
        split at h <;> cases h
/-- the whole search. -/
def runF (n : Nat) (zs : List (Int × Int × Int)) (hb mo se : Int) : Nat → Nat → FS → FS
  | 0, _, S => S
  | m + 1, t, S => if (t : Int) < se then (match leastF S.f n with | none => S | some (v, k) => if k ≤ mo then runF n zs hb mo se m (t + 1) (S.step zs hb v k) else S) else S
theorem runF_end {n : Nat} {zs : List (Int × Int × Int)} {hb mo se : Int} {s : Nat} {S1 : FS} (hz : Fine n zs) (h0 : SInv n zs hb s 0 S1) : ∀ (m t : Nat) (S : FS), n + 1 ≤ t + m → Steps n zs hb mo S1 t S → (t = 0 ∨ (t : Int) ≤ se) → ∃ t', Steps n zs hb mo S1 t' (runF n zs hb mo se m t S) ∧ RunEnd n se mo t' (runF n zs hb mo se m t S)
  | 0, t, S, h1, h2, _ => by have := steps_le hz h0 h2; omega
  | m + 1, t, S, h1, h2, h3 => by
    unfold runF
    split
    · rename_i hlt
      cases hl : leastF S.f n with
      | none => exact ⟨t, h2, Or.inr (Or.inl ⟨leastF_some.leastF_none hl, h3⟩)⟩
      | some p =>
        obtain ⟨v, k⟩ := p
        simp only
        split
        · rename_i hk
          exact runF_end hz h0 m (t + 1) _ (by omega) ⟨S, v, k, h2, leastF_some hl, hk, rfl⟩ (Or.inr (by omega))
        · rename_i hk
          exact ⟨t, h2, Or.inr (Or.inr ⟨v, k, leastF_some hl, by omega, h3⟩)⟩
    · rename_i hlt
      exact ⟨t, h2, Or.inl ⟨hlt, h3⟩⟩
/-- nothing known. -/
def FS.nil : FS := ⟨[], fun _ => 0, fun _ => 0, fun _ => none⟩
def runW (n : Nat) (zs : List (Int × Int × Int)) (u : Nat) (hops se mo : Int) : FS := runF n zs hops mo se (n + 1) 0 (FS.nil.begin n u)
theorem runW_end {n : Nat} {zs : List (Int × Int × Int)} {u : Nat} (hz : Fine n zs) (hu : u < n) (hops se mo : Int) : ∃ t', Steps n zs hops mo (FS.nil.begin n u) t' (runW n zs u hops se mo) ∧ RunEnd n se mo t' (runW n zs u hops se mo) := runF_end hz (start_inv hu _ rfl rfl) (n + 1) 0 _ (by omega) rfl (Or.inl rfl)
/-- what Find answers. -/
def findL (n : Nat) (zs : List (Int × Int × Int)) (u : Nat) (hops se mo : Int) (gs : List Int) : List Int := gs.map fun g => farOr (runW n zs u hops se mo).vs[g.toNat]?
/-- what Find stands on. -/
structure OvF (w : World) (oa : Addr) (n : Nat) (al : Int → Bool) (rowv : Nat → List (Int × Int × Int)) : Prop where
  alive : ∀ wx, Below w.heap.size w wx → ∀ x : Int, Calls Tryz.prog 9 #[.pointer (some oa), .int .i64 x] wx fun e w' => e = .returned (.bool (al x)) ∧ w' = wx
  out : ∀ wx, Below w.heap.size w wx → ∀ v : Nat, v < n → Calls Tryz.prog 11 #[.pointer (some oa), .int .i64 v] wx fun e w' => ∃ so sc, e = .returned (.slice so (rowv v).length sc) ∧ w'.ownsRow wx.heap.size 49 3 (.slice so (rowv v).length sc) (rowv v).length (flatH (rowv v)) ∧ Below wx.heap.size wx w'
  lt : ∀ x, al x = true → ∃ v : Nat, x = (v : Int) ∧ v < n
  len : ∀ v, v < n → (rowv v).length ≤ n
  wt : ∀ v, v < n → ∀ a ∈ rowv v, 0 ≤ a.1 ∧ a.1 < (n : Int) ∧ 0 ≤ a.2.1 ∧ a.2.1 ≤ 140737488355328
theorem OvF.up {w w' : World} {oa : Addr} {n : Nat} {al : Int → Bool} {rowv : Nat → List (Int × Int × Int)} (h : OvF w oa n al rowv) (hb : Below w.heap.size w w') : OvF w' oa n al rowv :=
  ⟨fun wx hx => h.alive wx (hb.trans (hx.mono hb.size)), fun wx hx => h.out wx (hb.trans (hx.mono hb.size)), h.lt, h.len, h.wt⟩
def FindA (n : Nat) (zs : List (Int × Int × Int)) (al : Int → Bool) (u : Int) (hops se mo : Int) (gs : List Int) (w : World) (e : Ending) (w' : World) : Prop := Below w.heap.size w w' ∧ ((findErr al u gs = (0, []) ∧ ∃ db, e = .returned (.tuple #[.slice (some ⟨db, 0, none⟩) gs.length gs.length, .nilIface]) ∧ w.heap.size ≤ db ∧ U64s w' db (findL n zs u.toNat hops se mo gs)) ∨ (findErr al u gs ≠ (0, []) ∧ ∃ T x, e = .returned (.tuple #[.slice none 0 0, .iface T x]) ∧ IsTold w' (findErr al u gs) (.iface T x)))
theorem told_cases {w : World} {e : Int × List (Int × Int)} {v : Value} (h : IsTold w e v) : (e = (0, []) ∧ v = .nilIface) ∨ (e ≠ (0, []) ∧ ∃ T x, v = .iface T x) := by
  rcases h with h | ⟨h1, h2⟩
  · exact Or.inl h
  · refine Or.inr ⟨fun e2 => h1 (by rw [e2]), ?_⟩
    obtain ⟨c, ps⟩ := e
    cases ps with
    | nil => exact ⟨_, _, h2⟩
    | cons p r =>
      obtain ⟨b, u, e1, _⟩ := h2
      exact ⟨_, _, e1⟩
set_option maxRecDepth 100000 in
set_option maxHeartbeats 4000000 in
theorem wfind_calls {w : World} {oa : Addr} {n : Nat} {al : Int → Bool} {rowv : Nat → List (Int × Int × Int)} (hO : OvF w oa n al rowv) (skip : Int) {zs : List (Int × Int × Int)} (hz : Fine n zs) (hrow : ∀ v, v < n → arcRow zs (firstAt zs v) (firstAt zs (v + 1)) = ((rowv v).filter fun a => a.1 != skip).map fun a => ((v : Int), a.1, a.2.1)) (hn : n ≤ 1000) (u : Int) (go : Option Addr) (gc : Nat) (gs : List Int) (hg : HasInts w (.slice go gs.length gc) gs) (hl : gs.length ≤ 1000) (mo hops se : Int) :
    Calls Tryz.prog 70 #[.pointer (some oa), .int .i64 u, .int .i64 skip, .slice go gs.length gc, .int .u64 mo, .int .i64 hops, .int .i64 se] w fun e w' => FindA n zs al u hops se mo gs w e w' := by
  have HO : Hid (OvF w oa n al rowv) := hO
  have HZ : Hid (Fine n zs ∧ (∀ v, v < n → arcRow zs (firstAt zs v) (firstAt zs (v + 1)) = ((rowv v).filter fun a => a.1 != skip).map fun a => ((v : Int), a.1, a.2.1)) ∧ n ≤ 1000 ∧ gs.length ≤ 1000) := ⟨hz, hrow, hn, hl⟩
  have HG : Hid (HasInts w (.slice go gs.length gc) gs) := hg
  have HCK : Hid (type_of% (wcheck_calls oa u go gc gs al w hg (by omega) hO.alive)) := wcheck_calls oa u go gc gs al w hg (by omega) hO.alive
  clear hO hz hrow hn hg hl
  go_enter Tryz.func70, Tryz.ntmps70
  go_wp2_with fail
  refine HCK.out.mono ?_
  rintro e y1 ⟨tv, rfl, ht, hy1⟩
  have HY1 : Hid (Below w.heap.size w y1) := hy1
  rcases told_cases ht with ⟨h1, rfl⟩ | ⟨h1, T, x, rfl⟩
  · have HE : Hid (findErr al u gs = (0, [])) := h1
    have HNW : Hid (type_of% (wnew_calls oa skip go gc gs y1 (HG.out.keep hy1) (by have := HZ.out; omega))) := wnew_calls oa skip go gc gs y1 (HG.out.keep hy1) (by have := HZ.out; omega)
    have hal : al u = true ∧ goalsErr al gs 0 = (0, []) := by
      unfold findErr at h1
      split at h1
      · rename_i ha; exact ⟨ha, h1⟩
      · have := congrArg Prod.fst h1; simp at this
    obtain ⟨uu, rfl, hu⟩ := HO.out.lt u hal.1
    have HGA : Hid (uu < n ∧ ∀ g ∈ gs, ∃ v : Nat, g = (v : Int) ∧ v < n) := ⟨hu, fun g hg => HO.out.lt g (goalsErr_ok hal.2 g hg)⟩
    clear ht h1 hy1 hal hu HCK
    go_wp2_with fail
    refine HNW.out.mono ?_
    rintro e y2 ⟨wB, sb, mb, c2, rfl, hbB, hW, hF⟩
    have HB2 : Hid (Below w.heap.size w wB ∧ WB wB y2 sb mb 0 (.pointer (some oa)) (.int .i64 skip) c2 (.int .i64 (((onceG gs).length : Nat) : Int)) (.slice none 0 0) (fun _ => none) []) := ⟨HY1.out.trans (hbB.mono HY1.out.size), hW⟩
    have HSR : Hid (Srr wB n (.pointer (some oa)) c2 skip (onceG gs) rowv zs) := ⟨fun wx hx v hv => (HO.out.up HB2.out.1).out wx hx v hv, fun wx hx v _ => hF wx hx v, HZ.out.1, HZ.out.2.1, HO.out.len, HO.out.wt⟩
    have HRU : Hid (type_of% (wrun_calls HSR.out HB2.out.2 (onceG_nodup gs) (fun g hg => by obtain ⟨v, e, _⟩ := HGA.out.2 g ((onceG_mem gs g).1 hg); omega) (by have := onceG_len gs; have := HZ.out; omega) HGA.out.1 HZ.out.2.2.1 hops se mo FS.nil)) := wrun_calls HSR.out HB2.out.2 (onceG_nodup gs) (fun g hg => by obtain ⟨v, e, _⟩ := HGA.out.2 g ((onceG_mem gs g).1 hg); omega) (by have := onceG_len gs; have := HZ.out; omega) HGA.out.1 HZ.out.2.2.1 hops se mo FS.nil
    clear hbB hW hF HNW
    go_wp2_with fail
    refine HRU.out.mono ?_
    rintro e y3 ⟨rfl, sv', L', Q', nm', c3, t, S, hw3, hst, hte, hend, hla, hno⟩
    have HB3 : Hid (Below w.heap.size w y3) := HB2.out.1.trans (hw3.b.mono HB2.out.1.size)
    have HDI : Hid (type_of% (wdist_calls hw3.s go gc gs (HG.out.keep HB3.out) (fun g hg => by obtain ⟨v, rfl, hv⟩ := HGA.out.2 g hg; exact wf_nat (by have := HZ.out; omega)) (by have := HZ.out; omega))) := wdist_calls hw3.s go gc gs (HG.out.keep HB3.out) (fun g hg => by obtain ⟨v, rfl, hv⟩ := HGA.out.2 g hg; exact wf_nat (by have := HZ.out; omega)) (by have := HZ.out; omega)
    have HAN : Hid (gs.map (ansG L') = findL n zs uu hops se mo gs) := by
      show _ = _
      unfold findL
      refine List.map_congr_left fun g hg => ?_
      obtain ⟨v, rfl, hv⟩ := HGA.out.2 g hg
      rw [Int.toNat_natCast]
      have hI0 : SInv n zs hops uu 0 (FS.nil.begin n uu) := start_inv HGA.out.1 _ rfl rfl
      have hI := steps_inv HZ.out.1 hI0 t S hst
      obtain ⟨t', r1, r2⟩ := runW_end HZ.out.1 HGA.out.1 hops se mo
      obtain ⟨o, ho⟩ : ∃ o, S.vs[v]? = some o := ⟨S.vs[v]'(by rw [hI.lv]; exact hv), List.getElem?_eq_getElem _⟩
      have hans : ansG L' (v : Int) = farOr (some o) := by
        cases o with
        | none => unfold ansG; rw [hno v ho]; rfl
        | some d => unfold ansG; rw [hla v d ho]; rfl
      rw [hans]
      rcases hend with he | he
      · obtain ⟨_, rfl⟩ := run_unique hst he r1 r2
        rw [ho]
      · have hfx := openG_zero he (v : Int) ((onceG_mem gs _).2 hg)
        rw [Int.toNat_natCast] at hfx
        obtain ⟨⟨d, q1⟩, q2⟩ := FS.fix_iff.1 hfx
        rw [ho] at q1
        cases q1
        rw [early HZ.out.1 hI0 hst hte r1 r2 ho q2]
    clear hw3 hst hte hend hla hno HRU
    go_wp2_with fail
    refine HDI.out.mono ?_
    rintro e y4 ⟨db, rfl, hdb, hu4, hb4⟩
    have HZZ : Hid (Below w.heap.size w y4 ∧ w.heap.size ≤ db ∧ U64s y4 db (findL n zs uu hops se mo gs)) := ⟨HB3.out.trans (hb4.mono HB3.out.size), Nat.le_trans HB3.out.size hdb, by rw [← HAN.out]; exact hu4⟩
    clear hdb hu4 hb4 HDI
    go_wp2
    go_ret2
    exact ⟨HZZ.out.1, Or.inl ⟨HE.out, db, rfl, HZZ.out.2.1, by rw [Int.toNat_natCast]; exact HZZ.out.2.2⟩⟩
  · have HE : Hid (findErr al u gs ≠ (0, []) ∧ IsTold y1 (findErr al u gs) (.iface T x)) := ⟨h1, ht⟩
    clear ht h1 hy1 HCK
    go_wp2
    go_ret2
    exact ⟨HY1.out, Or.inr ⟨HE.out.1, T, x, rfl, HE.out.2⟩⟩
end Go.Proofs.YtbkclhaonbjobaaGreat.Wt
