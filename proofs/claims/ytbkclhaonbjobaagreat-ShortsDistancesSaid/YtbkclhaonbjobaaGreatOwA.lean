/- an overlay's New: its rows filled. -/
import Derived.Test.YtbkclhaonbjobaaGreatQcX
import Derived.Deep.DeepCutAuto
import Derived.Deep.RegionHeld
namespace Go.Proofs.YtbkclhaonbjobaaGreat
open Go.RowKit Go.Extern Go.Sort

attribute [local go_sem] Oper.semAt_some

/-- the halves of a node's row at first. -/
def sideL (s : Bool) (zs : List (Int × Int × Int)) (u : Nat) : List H3 := if s then (zs.filter fun a => decide (a.2.1 = (u : Int))).map (fun a => (a.1, a.2.2, -1)) else (zs.filter fun a => decide (a.1 = (u : Int))).map (fun a => (a.2.1, a.2.2, -1))
theorem sideL_len (s : Bool) (zs : List (Int × Int × Int)) (u : Nat) : (sideL s zs u).length ≤ zs.length := by
  unfold sideL
  split <;> rw [List.length_map] <;> exact List.length_filter_le _ _
theorem sideL_succ_false {zs : List (Int × Int × Int)} {k : Nat} {a : Int × Int × Int} (h : zs[k]? = some a) (u : Nat) : sideL false (zs.take (k + 1)) u = if a.1 = (u : Int) then sideL false (zs.take k) u ++ [(a.2.1, a.2.2, -1)] else sideL false (zs.take k) u := by
  unfold sideL
  rw [List.take_add_one, h]
  simp only [Bool.false_eq_true, if_false, Option.toList_some, List.filter_append, List.map_append]
  split <;> simp_all
theorem sideL_succ_true {zs : List (Int × Int × Int)} {k : Nat} {a : Int × Int × Int} (h : zs[k]? = some a) (u : Nat) : sideL true (zs.take (k + 1)) u = if a.2.1 = (u : Int) then sideL true (zs.take k) u ++ [(a.1, a.2.2, -1)] else sideL true (zs.take k) u := by
  unfold sideL
  rw [List.take_add_one, h]
  simp only [if_true, Option.toList_some, List.filter_append, List.map_append]
  split <;> simp_all
section
variable {w w' : World} {PX : Nat → Option Obj} {B pb ab n : Nat} {sb : Bool → Nat} {bs : List Bool} {R : Bool → Nat → Rw} {nodes arcs : Int}
theorem OvMem.add (h : OvMem PX w B pb ab sb n bs R nodes arcs) (s : Bool) {u : Nat} (hu : u < n) (a : H3) (hl : (R s u).2.1.length ≤ 262144) :
    Calls Tryz.prog 27 #[.pointer (some ⟨sb s, u * 2, none⟩), hV a] w fun e w' => e = .returned (.tuple #[]) ∧ ∃ v', OvMem PX w' B pb ab sb n bs (updS R s u (v', (R s u).2.1 ++ [a], (R s u).2.2)) nodes arcs ∧ Below B w w' ∧ ∀ k, k < w.heap.size → k ≠ sb s → (R s u).1.ownBlock ≠ some k → w'.heap[k]? = w.heap[k]? := by
  refine (add_calls B (sb s) (u * 2) _ _ (R s u).1 (R s u).2.2 (R s u).2.1 a w (h.row s) (h.rc s hu).1 (h.rc s hu).2 (h.own s u hu) ((h.far s hu).2.2 s) h.size hl).mono ?_
  rintro e w' ⟨rfl, v', o, m⟩
  have hm := h.moved hu m o
  exact ⟨rfl, v', hm.1, hm.2, m.block⟩
end
theorem flags_set (n k : Nat) (hk : k < n) : (List.replicate k true ++ List.replicate (n - k) false).set k true = List.replicate (k + 1) true ++ List.replicate (n - (k + 1)) false := by
  apply List.ext_getElem?
  intro i
  rw [List.getElem?_set]
  simp only [List.getElem?_append, List.length_replicate, List.getElem?_replicate, List.length_append]
  by_cases h1 : k = i
  · subst h1
    simp
    omega
  · rw [if_neg h1]
    by_cases h2 : i < k
    · rw [if_pos h2, if_pos (show i < k + 1 by omega), if_pos h2, if_pos (show i < k + 1 by omega)]
    · rw [if_neg h2, if_neg (show ¬ i < k + 1 by omega)]
      by_cases h3 : i < n
      · rw [if_pos (show i - k < n - k by omega), if_pos (show i - (k + 1) < n - (k + 1) by omega)]
      · rw [if_neg (show ¬ i - k < n - k by omega), if_neg (show ¬ i - (k + 1) < n - (k + 1) by omega)]

set_option maxRecDepth 100000 in
set_option maxHeartbeats 4000000 in
theorem onew_good (n : Nat) (hn : n ≤ 65536) (ao : Option Addr) (k0 cap : Nat) (xs : List (Int × Int × Int)) (w : World) (hl : HasArcs w (.slice ao k0 cap) xs) (hg : graphErr (n : Int) xs = (0, [])) (hfin : ∀ a ∈ normA xs, (0 ≤ a.1 ∧ a.1 < (n : Int)) ∧ (0 ≤ a.2.1 ∧ a.2.1 < (n : Int)) ∧ 0 ≤ a.2.2 ∧ a.2.2 ≤ 9223372036854775807) (hM : (normA xs).length ≤ 262144) :
    Calls Tryz.prog 7 #[.agg #[.int .i64 n, .slice ao k0 cap]] w fun e w' => ∃ B pb ab sb R, e = .returned (.tuple #[.pointer (some ⟨pb, 0, none⟩), .nilIface]) ∧ w.heap.size ≤ B ∧ OvMem noP w' B pb ab sb n (List.replicate n true) R (n : Int) ((normA xs).length : Int) ∧ (∀ s u, u < n → (R s u).2 = (sideL s (normA xs) u, 0)) ∧ Below w.heap.size w w' := by
  obtain ⟨zs, hzs⟩ : ∃ zs, normA xs = zs := ⟨_, rfl⟩
  obtain ⟨W0, hW0⟩ : ∃ W0, w.alloc (.cells #[.int .i64 n, .slice ao k0 cap] 24) = W0 := ⟨_, rfl⟩
  have HW0 : Hid (w.alloc (.cells #[.int .i64 n, .slice ao k0 cap] 24) = W0) := hW0
  have hB0 : Below w.heap.size w W0 := by rw [← hW0]; exact (Below.refl _ w).alloc (Nat.le_refl _) _
  have k1 : W0.heap[w.heap.size]? = some (.cells #[.int .i64 n, .slice ao k0 cap] 24) := by rw [← hW0]; exact heap_new _ _
  have HOF : Hid (Calls Tryz.prog 26 #[.agg #[.int .i64 n, .slice ao k0 cap]] W0 fun e w' => ∃ lo k lc, e = .returned (.tuple #[.agg #[.int .i64 n, .slice lo k lc], .nilIface]) ∧ HasArcs w' (.slice lo k lc) zs ∧ Below W0.heap.size W0 w') := by
    have h := of_good (hl.keep hB0) hg
    rw [hzs] at h
    exact h
  rw [hzs] at hfin hM ⊢
  have HFI : Hid (∀ a ∈ zs, (0 ≤ a.1 ∧ a.1 < (n : Int)) ∧ (0 ≤ a.2.1 ∧ a.2.1 < (n : Int)) ∧ 0 ≤ a.2.2 ∧ a.2.2 ≤ 9223372036854775807) := hfin
  have HB0 : Hid (Below w.heap.size w W0) := hB0
  clear hl hg hzs hW0 hB0 hfin
  obtain ⟨c0, c1⟩ : W0.cell? ⟨w.heap.size, 0, none⟩ = some (.int .i64 n) ∧ W0.cell? ⟨w.heap.size, 1, none⟩ = some (.slice ao k0 cap) := by simp [World.cell?, k1]
  clear k1
  go_enter Tryz.func7, Tryz.ntmps7
  go_wp2_with fail
  rw [HW0.out]
  refine HOF.out.mono ?_
  rintro e w1 ⟨lo, m, lc, rfl, hA1, hb1⟩
  obtain rfl : m = zs.length := arcs_len hA1
  have HB1 : Hid (Below w.heap.size w w1) := HB0.out.trans (hb1.mono HB0.out.size)
  have HA1 : Hid (HasArcs w1 (.slice lo zs.length lc) zs) := hA1
  clear hA1 hb1 c0 c1
  go_upto_region 5 with fail
  generalize hW2 : w1.alloc (.cells #[.int .i64 (n : Int), .slice lo zs.length lc] 24) = w2
  have hb2 : Below w1.heap.size w1 w2 := by rw [← hW2]; exact (Below.refl _ w1).alloc (Nat.le_refl _) _
  have hg2 : w2.heap[w1.heap.size]? = some (.cells #[.int .i64 (n : Int), .slice lo zs.length lc] 24) := by rw [← hW2]; exact heap_new _ _
  have H2 : Hid (HasArcs w2 (.slice lo zs.length lc) zs ∧ Below w.heap.size w w2 ∧ w.heap.size ≤ w2.heap.size) := ⟨HA1.out.keep hb2, HB1.out.trans (hb2.mono HB1.out.size), Nat.le_trans HB1.out.size hb2.size⟩
  have HG2 : Hid (w2.heap[w1.heap.size]? = some (.cells #[.int .i64 (n : Int), .slice lo zs.length lc] 24)) := hg2
  clear hW2 hb2 hg2 HA1 HB1 HB0 HOF HW0
  generalize w1.heap.size = gb at *
  obtain ⟨c0, c1⟩ : w2.cell? ⟨gb, 0, none⟩ = some (.int .i64 n) ∧ w2.cell? ⟨gb, 1, none⟩ = some (.slice lo zs.length lc) := by simp [World.cell?, HG2.out]
  have cs : gb < w2.heap.size := lt_of_get HG2.out
  have hmk1 := make_bs n hn
  have hmk2 := make_rows n hn
  have HKS : Hid (∀ wx, Below w2.heap.size w2 wx → wx.cell? ⟨gb, 1, none⟩ = some (.slice lo zs.length lc)) := fun wx h => (h.cell (p := ⟨gb, 1, none⟩) cs).trans c1
  go_cut [7] (fun c wx => ∃ pb ab sb, c = .pointer (some ⟨pb, 0, none⟩) ∧ OvMem noP wx w2.heap.size pb ab sb n (List.replicate n false) noRows (n : Int) (zs.length : Int) ∧ Below w2.heap.size w2 wx)
  case first =>
    go_region_held (fun w' => w'.cell? ⟨gb, 1, none⟩ = some (.slice lo zs.length lc)) (first
      | (exact HKS.out _ (by repeat (first | (with_reducible exact Below.refl _ _) | (with_reducible refine Below.drew ?_) | (with_reducible refine Below.alloc ?_ (by simp <;> omega) _))))) (first | fail)
    all_goals
      go_wp2_with fail
      go_meet
      apply new_ex rfl hn
      case c => first | exact nz0 _ _ _ _ _ | exact nz1 _ _ _ _ _ | exact nz2 _ _ _ _ _ | exact nz3 _ _ _ _ _
      case f => first | exact nz0 _ _ _ _ _ | exact nz1 _ _ _ _ _ | exact nz2 _ _ _ _ _ | exact nz3 _ _ _ _ _
      case t => first | exact nz0 _ _ _ _ _ | exact nz1 _ _ _ _ _ | exact nz2 _ _ _ _ _ | exact nz3 _ _ _ _ _
      case v => first | exact nz0 _ _ _ _ _ | exact nz1 _ _ _ _ _ | exact nz2 _ _ _ _ _ | exact nz3 _ _ _ _ _
      case b => exact nzb _ _ _ _ _
      case low => omega
      case ne => omega
  case rest =>
    obtain ⟨pb, ab, sb, rfl, hd, hb⟩ := hcut
    have HD : Hid (OvMem noP wc w2.heap.size pb ab sb n (List.replicate n false) noRows (n : Int) (zs.length : Int) ∧ Below w2.heap.size w2 wc) := ⟨hd, hb⟩
    clear c0 c1 hmk1 hmk2
    obtain ⟨p0, p1, p2, p3, p4, ps⟩ := hd.cells
    clear hd hb
    generalize wc = w3 at *
    go_wp2_with fail
    go_loopw [39] (fun iv wr => ∃ k : Nat, k ≤ n ∧ iv = .int .i64 (k : Nat) ∧ OvMem noP wr w2.heap.size pb ab sb n (List.replicate k true ++ List.replicate (n - k) false) noRows (n : Int) (zs.length : Int) ∧ Below w2.heap.size w2 wr) (fun iv _ => n - (intOf iv).toNat)
    case atStart => exact ⟨0, Nat.zero_le _, rfl, by simpa using HD.out.1, HD.out.2⟩
    case round =>
      obtain ⟨k, hkn, rfl, hM1, hB1⟩ := hrel
      by_cases hlt : k < n
      · have i1 : (k : Int) < (n : Int) := by omega
        have i2 : (0 : Int) ≤ (k : Int) := by omega
        obtain ⟨c0, c1, c2, c3, c4, cs4⟩ := hM1.cells
        have f0 := hM1.flag hlt
        have f1 : wr.frozen? ⟨ab, k, none⟩ = false := by simp [World.frozen?, hM1.al]
        have l1 : ab < wr.heap.size := lt_of_get hM1.al
        have hs := hM1.setFlag k true
        rw [flags_set n k hlt] at hs
        have HS : Hid (type_of% (And.intro hs.1 (hB1.trans hs.2))) := ⟨hs.1, hB1.trans hs.2⟩
        clear hM1 hB1 hs p0 p1 p2 p3 p4 ps
        go_wp2
        go_roundw
        case rel => exact ⟨k + 1, by omega, by go_num, HS.out.1, HS.out.2⟩
        case measure => simp [intOf]; omega
      · obtain rfl : k = n := by omega
        rw [Nat.sub_self, List.replicate_zero, List.append_nil] at hM1
        have HM1 : Hid (OvMem noP wr w2.heap.size pb ab sb k (List.replicate k true) noRows (k : Int) (zs.length : Int) ∧ Below w2.heap.size w2 wr) := ⟨hM1, hB1⟩
        have c1 := HKS.out wr hB1
        have cs4 : gb < wr.heap.size := Nat.lt_of_lt_of_le cs hB1.size
        clear hM1 hB1 p0 p1 p2 p3 p4 ps
        go_wp2_with fail
        go_loopw [52] (fun iv wr => ∃ (j : Nat) (R : Bool → Nat → Rw), j ≤ zs.length ∧ iv = .int .i64 (j : Nat) ∧ OvMem noP wr w2.heap.size pb ab sb k (List.replicate k true) R (k : Int) (zs.length : Int) ∧ (∀ s u, u < k → (R s u).2 = (sideL s (zs.take j) u, 0)) ∧ Below w2.heap.size w2 wr) (fun iv _ => zs.length - (intOf iv).toNat)
        case atStart => exact ⟨0, noRows, Nat.zero_le _, rfl, HM1.out.1, fun s u _ => by cases s <;> rfl, HM1.out.2⟩
        case round =>
          obtain ⟨j, R, hjl, rfl, hM1, hR1, hB1⟩ := hrel
          by_cases hlt2 : j < zs.length
          · obtain ⟨a, ha⟩ : ∃ a, zs[j]? = some a := ⟨zs[j], List.getElem?_eq_getElem hlt2⟩
            obtain ⟨b, off, rfl, bl, e0, e1, e2⟩ := (H2.out.1.keep hB1).at ha
            obtain ⟨⟨n0, n1⟩, ⟨n2, n3⟩, n4, n5⟩ := HFI.out a (List.mem_of_getElem? ha)
            have HS0 := fun u => sideL_succ_false ha u
            have HS1 := fun u => sideL_succ_true ha u
            obtain ⟨a0, a1, a2⟩ := a
            simp only at e0 e1 e2 n0 n1 n2 n3 n4 n5 HS0 HS1
            obtain ⟨x, rfl⟩ : ∃ x : Nat, a0 = (x : Int) := ⟨a0.toNat, by omega⟩
            obtain ⟨y, rfl⟩ : ∃ y : Nat, a1 = (y : Int) := ⟨a1.toNat, by omega⟩
            have hx : x < k := by omega
            have hy : y < k := by omega
            have hl0 : (R false x).2.1.length ≤ 262144 := by rw [hR1 false x hx]; have h1 := sideL_len false (zs.take j) x; rw [List.length_take] at h1; simp only; omega
            have hl1 : (R true y).2.1.length ≤ 262144 := by rw [hR1 true y hy]; have h1 := sideL_len true (zs.take j) y; rw [List.length_take] at h1; simp only; omega
            have HRN : Hid (∀ v1 v2 s u, u < k → (updS (updS R false x (v1, (R false x).2.1 ++ [((y : Int), a2, -1)], (R false x).2.2)) true y (v2, (R true y).2.1 ++ [((x : Int), a2, -1)], (R true y).2.2) s u).2 = (sideL s (zs.take (j + 1)) u, 0)) := fun v1 v2 s u hu => by
              cases s with
              | false =>
                rw [updS_far _ true false _ _ (by simp), HS0 u]
                by_cases e : u = x
                · subst e
                  rw [updS_at, if_pos rfl, hR1 false u hu]
                · rw [updS_other _ _ _ _ _ _ (by simp [e]), if_neg (by omega), hR1 false u hu]
              | true =>
                rw [HS1 u]
                by_cases e : u = y
                · subst e
                  rw [updS_at, if_pos rfl, hR1 true u hu]
                · rw [updS_other _ _ _ _ _ _ (by simp [e]), if_neg (by omega), updS_far _ false true _ _ (by simp), hR1 true u hu]
            obtain ⟨Wa, hWa⟩ : ∃ Wa, wr.alloc (.cells #[.int .i64 (x : Int), .int .i64 (y : Int), .int .i64 a2] 84) = Wa := ⟨_, rfl⟩
            have bWa : Below wr.heap.size wr Wa := by rw [← hWa]; exact (Below.refl _ wr).alloc (Nat.le_refl _) _
            have hMa := hM1.keep bWa
            have hha : Wa.heap[wr.heap.size]? = some (.cells #[.int .i64 (x : Int), .int .i64 (y : Int), .int .i64 a2] 84 (0, 0)) := by rw [← hWa]; exact heap_new wr _
            have hfar : ∀ s u, u < k → (R s u).1.ownBlock ≠ some wr.heap.size := fun s u hu e => by have := ((hM1.own s u hu).lt _ e).2; omega
            have hfs : ∀ s, wr.heap.size ≠ sb s := fun s e => by have := lt_of_get (hM1.row s); omega
            have hl : wr.heap.size < Wa.heap.size := lt_of_get hha
            have HAD1 : Hid (Calls Tryz.prog 27 #[.pointer (some ⟨sb false, x * 2, none⟩), .agg #[.int .i64 (y : Int), .int .u64 a2, .int .i64 (-1)]] Wa.drew fun e w' => e = .returned (.tuple #[]) ∧ ∃ v', OvMem noP w' w2.heap.size pb ab sb k (List.replicate k true) (updS R false x (v', (R false x).2.1 ++ [((y : Int), a2, -1)], (R false x).2.2)) (k : Int) (zs.length : Int) ∧ Below w2.heap.size w2 w' ∧ w'.heap[wr.heap.size]? = some (.cells #[.int .i64 (x : Int), .int .i64 (y : Int), .int .i64 a2] 84 (0, 0))) := by
              refine ((hMa.keep (Below.refl _ Wa).drew).add false hx ((y : Int), a2, -1) hl0).mono ?_
              rintro e w' ⟨rfl, v', m1, m2, m3⟩
              exact ⟨rfl, v', m1, (hB1.trans (bWa.mono hM1.size)).drew.trans m2, (m3 wr.heap.size hl (hfs false) (hfar false x hx)).trans hha⟩
            have HAD2 : Hid (∀ wx v1, OvMem noP wx w2.heap.size pb ab sb k (List.replicate k true) (updS R false x (v1, (R false x).2.1 ++ [((y : Int), a2, -1)], (R false x).2.2)) (k : Int) (zs.length : Int) → wx.heap[wr.heap.size]? = some (.cells #[.int .i64 (x : Int), .int .i64 (y : Int), .int .i64 a2] 84 (0, 0)) → Calls Tryz.prog 27 #[.pointer (some ⟨sb true, y * 2, none⟩), .agg #[.int .i64 (x : Int), .int .u64 a2, .int .i64 (-1)]] wx fun e w' => e = .returned (.tuple #[]) ∧ ∃ v', OvMem noP w' w2.heap.size pb ab sb k (List.replicate k true) (updS (updS R false x (v1, (R false x).2.1 ++ [((y : Int), a2, -1)], (R false x).2.2)) true y (v', (R true y).2.1 ++ [((x : Int), a2, -1)], (R true y).2.2)) (k : Int) (zs.length : Int) ∧ Below w2.heap.size wx w' ∧ w'.heap[wr.heap.size]? = some (.cells #[.int .i64 (x : Int), .int .i64 (y : Int), .int .i64 a2] 84 (0, 0))) := fun wx v1 hx' hb' => by
              have hr : updS R false x (v1, (R false x).2.1 ++ [((y : Int), a2, -1)], (R false x).2.2) true = R true := updS_far _ false true _ _ (by simp)
              have h1 := hx'.add true hy ((x : Int), a2, -1) (by rw [hr]; exact hl1)
              rw [hr] at h1
              refine h1.mono ?_
              rintro e w' ⟨rfl, v', m1, m2, m3⟩
              exact ⟨rfl, v', m1, m2, (m3 wr.heap.size (lt_of_get hb') (hfs true) (hfar true y hy)).trans hb'⟩
            have HWA : Hid (wr.alloc (.cells #[.int .i64 (x : Int), .int .i64 (y : Int), .int .i64 a2] 84) = Wa) := hWa
            obtain ⟨c0, c1', c2, c3, c4, cs5⟩ := hMa.cells
            obtain ⟨g0, g1, g2⟩ : Wa.cell? ⟨wr.heap.size, 0, none⟩ = some (.int .i64 (x : Int)) ∧ Wa.cell? ⟨wr.heap.size, 1, none⟩ = some (.int .i64 (y : Int)) ∧ Wa.cell? ⟨wr.heap.size, 2, none⟩ = some (.int .i64 a2) := by simp [World.cell?, hha]
            have i1 : (j : Int) < (zs.length : Int) := by omega
            have i2 : (0 : Int) ≤ (j : Int) := by omega
            have sw : IntKind.u64.wrap a2 = a2 := by rw [IntKind.wrap_u64] <;> omega
            clear hWa bWa hMa hha hfar hfs hM1 hR1 hB1 HS0 HS1 hl0 hl1 c1 cs4 ha
            go_wp2_with fail
            rw [HWA.out]
            have j1 : (x : Int) < (k : Int) := by omega
            have j2 : (0 : Int) ≤ (x : Int) := by omega
            have j3 : (y : Int) < (k : Int) := by omega
            have j4 : (0 : Int) ≤ (y : Int) := by omega
            clear e0 e1 e2 bl
            go_region_held3 (fun w' => w'.cell? ⟨pb, 1, none⟩ = some (.slice (some ⟨sb false, 0, none⟩) k k) ∧ w'.cell? ⟨wr.heap.size, 0, none⟩ = some (.int .i64 (x : Int)) ∧ w'.cell? ⟨wr.heap.size, 1, none⟩ = some (.int .i64 (y : Int))) (go_keep) (first
              | (go_at_call 27; refine HAD1.out.mono ?_; rintro e y1 ⟨rfl, v1, m1, m2, m3⟩; have Y1 : Hid (type_of% (And.intro m1 (And.intro m2 m3))) := ⟨m1, m2, m3⟩; have z1 := m1.cells.2.1; have z2 := m1.cells.2.2.1; have z5 := m1.cells.2.2.2.2.2; have z3 : y1.cell? ⟨wr.heap.size, 0, none⟩ = some (.int .i64 (x : Int)) := (by simp [World.cell?, m3]); have z4 : y1.cell? ⟨wr.heap.size, 1, none⟩ = some (.int .i64 (y : Int)) := (by simp [World.cell?, m3]); have z6 : wr.heap.size < y1.heap.size := lt_of_get m3; clear m1 m2 m3))
            clear c0 c1' c2 c3 c4 cs5 g0 g1 g2 hl
            go_wp2_with fail
            go_region_held3 (fun w' => w'.cell? ⟨pb, 2, none⟩ = some (.slice (some ⟨sb true, 0, none⟩) k k) ∧ w'.cell? ⟨wr.heap.size, 0, none⟩ = some (.int .i64 (x : Int)) ∧ w'.cell? ⟨wr.heap.size, 1, none⟩ = some (.int .i64 (y : Int))) (go_keep) (first
              | (go_at_call 27; refine (HAD2.out _ v1 (Y1.out.1.keep (Below.refl _ _).drew) Y1.out.2.2).mono ?_; rintro e y2 ⟨rfl, v2, m1, m2, m3⟩; have Y2 : Hid (type_of% (And.intro m1 (Y1.out.2.1.trans ((Below.refl _ y1).drew.trans m2)))) := ⟨m1, Y1.out.2.1.trans ((Below.refl _ y1).drew.trans m2)⟩; have t1 := m1.cells.2.1; have t2 := m1.cells.2.2.1; have t5 := m1.cells.2.2.2.2.2; have t3 : y2.cell? ⟨wr.heap.size, 0, none⟩ = some (.int .i64 (x : Int)) := (by simp [World.cell?, m3]); have t4 : y2.cell? ⟨wr.heap.size, 1, none⟩ = some (.int .i64 (y : Int)) := (by simp [World.cell?, m3]); clear m1 m2 m3))
            go_wp2
            go_roundw
            case rel => exact ⟨j + 1, _, by omega, by go_num, Y2.out.1, HRN.out v1 v2, Y2.out.2⟩
            case measure => simp [intOf]; omega
          · obtain rfl : j = zs.length := by omega
            rw [List.take_length] at hR1
            have HF : Hid (type_of% (And.intro hM1 (And.intro hR1 (H2.out.2.1.trans (hB1.mono H2.out.2.2))))) := ⟨hM1, hR1, H2.out.2.1.trans (hB1.mono H2.out.2.2)⟩
            clear hM1 hR1 hB1
            go_wp2
            go_ret2
            exact ⟨w2.heap.size, pb, ab, sb, R, rfl, H2.out.2.2, HF.out.1, HF.out.2.1, HF.out.2.2⟩
end Go.Proofs.YtbkclhaonbjobaaGreat
