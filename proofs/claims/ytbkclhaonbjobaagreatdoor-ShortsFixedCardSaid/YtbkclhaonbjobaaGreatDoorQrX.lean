/- The search's run, walked. The search's run, walked. (genwty.py) The search's distances, walked. -/
import Derived.Test.YtbkclhaonbjobaaGreatDoorWtW
import Derived.Test.YtbkclhaonbjobaaGreatDoorWtE
import Derived.Test.YtbkclhaonbjobaaGreatDoorInts
namespace Go.Proofs.YtbkclhaonbjobaaGreatDoor.Wt
open Go Go.RowKit Go.Extern

attribute [local go_sem] Oper.semAt_some

/-- how many goals aren't settled. -/
def openG (S : FS) (G : List Int) : Nat := G.countP fun g => !S.fix g.toNat
theorem openG_zero {S : FS} {G : List Int} (h : openG S G = 0) : ∀ g ∈ G, S.fix g.toNat = true := fun g hg => by
  unfold openG at h
  have := List.countP_eq_zero.1 h g hg
  simpa using this
theorem relax1_fix {n v : Nat} {k h : Int} {S : FS} (h0 : LI n v k h S) {a : Int × Int × Int} (hr : 0 ≤ a.2.2) (u : Nat) : (relax1 v k h S a).fix u = S.fix u := by
  unfold relax1
  split
  · rename_i hb
    obtain ⟨x, hx⟩ : ∃ x, a.2.1.toNat = x := ⟨_, rfl⟩
    rw [hx] at hb ⊢
    rw [Bool.eq_iff_iff, FS.fix_iff, FS.fix_iff]
    show (∃ d, (S.vs.set x (some (k + a.2.2)))[u]? = some (some d)) ∧ upd S.f (x : Int) (some (k + a.2.2)) (u : Int) = none ↔ _
    rw [upd_at, List.getElem?_set]
    by_cases e : u = x
    · subst e
      rw [if_pos rfl, if_pos rfl]
      constructor
      · rintro ⟨_, h2⟩; cases h2
      · rintro ⟨⟨d, h1⟩, h2⟩
        exfalso
        have := h0.low u d h1 h2
        unfold FS.better at hb
        rw [h1] at hb
        simp at hb
        omega
    · rw [if_neg e, if_neg (fun e2 => e e2.symm)]
  · rfl
theorem fold_fix {n v : Nat} {k h : Int} : ∀ (l : List (Int × Int × Int)) (S : FS), LI n v k h S → (∀ a ∈ l, 0 ≤ a.2.2 ∧ a.2.1.toNat ≠ v) → ∀ u, (l.foldl (relax1 v k h) S).fix u = S.fix u
  | [], _, _, _, _ => rfl
  | a :: l, S, h0, hl, u => by
    obtain ⟨g1, g2⟩ := hl a (by simp)
    rw [List.foldl_cons, fold_fix l _ (h0.next g2) (fun b hb => hl b (by simp [hb])) u, relax1_fix h0 g1 u]
theorem step_fix {n : Nat} {zs : List (Int × Int × Int)} {hb : Int} {s t : Nat} {S : FS} (hz : Fine n zs) (hI : SInv n zs hb s t S) {v : Nat} {k : Int} (hL : Least n S.f v k) (u : Nat) : (S.step zs hb v k).fix u = (S.fix u || decide (u = v)) := by
  have h1 := hI.opn v k hL.1 hL.2.1
  have hp : (S.pop v).fix u = (S.fix u || decide (u = v)) := by
    rw [Bool.eq_iff_iff, Bool.or_eq_true, FS.fix_iff, FS.fix_iff, decide_eq_true_iff]
    show (∃ d, S.vs[u]? = some (some d)) ∧ upd S.f (v : Int) none (u : Int) = none ↔ _
    rw [upd_at]
    by_cases e : u = v
    · subst e
      rw [if_pos rfl]
      exact ⟨fun _ => Or.inr rfl, fun _ => ⟨⟨k, h1⟩, rfl⟩⟩
    · rw [if_neg e]
      exact ⟨fun h => Or.inl h, fun h => h.elim id (fun h => absurd h e)⟩
  rw [← hp]
  unfold FS.step
  split
  · refine fold_fix _ _ (LI.start hI hL) (fun a ha => ?_) u
    obtain ⟨m1, m2⟩ := (hz.arcRow_mem v a).1 ha
    have := hz.ends a m1
    exact ⟨this.2.2.2.2.2.1, by omega⟩
  · rfl
/-- a goal more is settled. -/
theorem openG_step {n : Nat} {zs : List (Int × Int × Int)} {hb : Int} {s t : Nat} {S : FS} (hz : Fine n zs) (hI : SInv n zs hb s t S) {v : Nat} {k : Int} (hL : Least n S.f v k) {G : List Int} (hG : G.Nodup) (hg : ∀ g ∈ G, 0 ≤ g) : ((openG (S.step zs hb v k) G : Nat) : Int) = leftA G v (openG S G) := by
  have hv : S.fix v = false := by
    cases h : S.fix v with
    | false => rfl
    | true =>
      have := (FS.fix_iff.1 h).2
      rw [hL.2.1] at this
      cases this
  have hmain : ∀ l : List Int, l.Nodup → (∀ g ∈ l, 0 ≤ g) → openG (S.step zs hb v k) l + (if l.contains (v : Int) = true then 1 else 0) = openG S l := by
    intro l
    induction l with
    | nil => intro _ _; rfl
    | cons g r ih =>
      intro hn h0
      obtain ⟨n1, n2⟩ := List.nodup_cons.1 hn
      have ih' := ih n2 (fun x hx => h0 x (by simp [hx]))
      have hg0 := h0 g (by simp)
      unfold openG at ih' ⊢
      rw [List.countP_cons, List.countP_cons, step_fix hz hI hL]
      by_cases e : g = (v : Int)
      · subst e
        have hnc : r.contains (v : Int) = false := by
          cases hc : r.contains (v : Int) with
          | false => rfl
          | true => exact absurd (List.contains_iff_mem.1 hc) n1
        have hcc : ((v : Int) :: r).contains (v : Int) = true := by simp
        rw [hnc] at ih'
        rw [hcc]
        simp only [Int.toNat_natCast, hv, decide_true, Bool.or_true, Bool.not_true, Bool.not_false, if_true] at ih' ⊢
        simp at ih' ⊢
        omega
      · have h3 : decide (g.toNat = v) = false := by simp; omega
        have h4 : (g :: r).contains (v : Int) = r.contains (v : Int) := by
          rw [List.contains_cons]
          have : ((v : Int) == g) = false := by simp; omega
          rw [this]; rfl
        rw [h3, h4, Bool.or_false]
        omega
  have := hmain G hG hg
  unfold leftA
  split
  · rename_i h; rw [if_pos h] at this; omega
  · rename_i h; rw [if_neg h] at this; omega
end Go.Proofs.YtbkclhaonbjobaaGreatDoor.Wt

namespace Go.Proofs.YtbkclhaonbjobaaGreatDoor.Wt
open Go Go.RowKit Go.Extern

attribute [local go_sem] Oper.semAt_some

/-- what run leaves. -/
def WRunA (wB : World) (n : Nat) (zs : List (Int × Int × Int)) (G : List Int) (hops se mo : Int) (S1 : FS) (sb mb : Nat) (c0 c1 c2 : Value) (e : Ending) (w' : World) : Prop := e = .returned (.tuple #[]) ∧ ∃ sv' L' Q' nm' c3 t S, WB wB w' sb mb nm' c0 c1 c2 c3 sv' L' Q' ∧ Steps n zs hops mo S1 t S ∧ (t = 0 ∨ (t : Int) ≤ se) ∧ (RunEnd n se mo t S ∨ openG S G = 0) ∧ (∀ (v : Nat) (d : Int), S.vs[v]? = some (some d) → L' (v : Int) = some (d, S.hs v)) ∧ ∀ (v : Nat), S.vs[v]? = some none → L' (v : Int) = none
section
variable {wB w : World} {n sb mb : Nat} {c0 c2 : Value} {skip : Int} {G : List Int} {rowv : Nat → List (Int × Int × Int)} {zs : List (Int × Int × Int)}
set_option maxRecDepth 100000 in
set_option maxHeartbeats 8000000 in
theorem wrun_calls (hs : Srr wB n c0 c2 skip G rowv zs) (hb : WB wB w sb mb 0 c0 (.int .i64 skip) c2 (.int .i64 ((G.length : Nat) : Int)) (.slice none 0 0) (fun _ => none) []) (hG : G.Nodup) (hG0 : ∀ g ∈ G, 0 ≤ g) (hGl : G.length ≤ 1000) {u : Nat} (hu : u < n) (hn : n ≤ 1000) (hops se mo : Int) (S0 : FS) :
    Calls Tryz.prog 103 #[.pointer (some ⟨sb, 0, none⟩), .int .i64 u, .int .u64 mo, .int .i64 hops, .int .i64 se] w fun e w' => WRunA wB n zs G hops se mo (S0.begin n u) sb mb c0 (.int .i64 skip) c2 e w' := by
  have HS : Hid (Srr wB n c0 c2 skip G rowv zs) := hs
  have HN : Hid (n ≤ 1000) := hn
  have HI0 : Hid (SInv n zs hops u 0 (S0.begin n u)) := start_inv hu _ rfl rfl
  have HSE : Hid (Calls Tryz.prog 121 #[.pointer (some ⟨sb, 0, none⟩), .int .i64 u, .agg #[.int .u64 0, .int .i64 0]] w _) := wset_calls hb.s (u : Int) (wf_nat (v := u) (by omega)) 0 0 (by simp) (by unfold maxLen; omega)
  have HB : Hid (WB wB w sb mb 0 c0 (.int .i64 skip) c2 (.int .i64 ((G.length : Nat) : Int)) (.slice none 0 0) (fun _ => none) []) := hb
  have HGG : Hid (G.Nodup ∧ (∀ g ∈ G, 0 ≤ g) ∧ G.length ≤ 1000 ∧ openG (S0.begin n u) G = G.length) := ⟨hG, hG0, hGl, by
    unfold openG
    rw [List.countP_eq_length]
    intro g _
    have : (S0.begin n u).fix g.toNat = false := by
      cases h : (S0.begin n u).fix g.toNat with
      | false => rfl
      | true =>
        obtain ⟨⟨d, h1⟩, h2⟩ := FS.fix_iff.1 h
        exfalso
        have h1' : ((List.replicate n (none : Option Int)).set u (some 0))[g.toNat]? = some (some d) := h1
        have h2' : upd (fun _ => none) (u : Int) (some 0) ((g.toNat : Nat) : Int) = none := h2
        rw [upd_at] at h2'
        split at h2'
        · cases h2'
        · rename_i e
          rw [List.getElem?_set, if_neg (fun e2 => e e2.symm), List.getElem?_replicate] at h1'
          split at h1' <;> cases h1'
    rw [this]; rfl⟩
  clear hs hb hG hG0 hGl hu hn
  go_enter Tryz.func103, Tryz.ntmps103
  go_wp2_with fail
  refine HSE.out.mono ?_
  rintro e y1 ⟨rfl, sv1, Q1, hs1, hf1, hp1⟩
  have H1 : Hid (WB wB y1 sb mb 1 c0 (.int .i64 skip) c2 (.int .i64 ((openG (S0.begin n u) G : Nat) : Int)) sv1 (updL (fun _ => none) (u : Int) (0, 0)) Q1 ∧ Rel n (S0.begin n u) (updL (fun _ => none) (u : Int) (0, 0)) Q1 ∧ Q1.length = 1) := ⟨by rw [HGG.out.2.2.2]; exact HB.out.next hs1 hf1, (Rel.begin n S0 (by have := HI0.out.src; have h2 := (List.getElem?_eq_some_iff.1 this).1; rw [HI0.out.lv] at h2; exact h2)).perm hp1.symm, by rw [hp1.length_eq]; rfl⟩
  clear hs1 hf1 hp1 HSE
  go_wp2_with fail
  go_loopw [10] (fun iv wr => ∃ (t : Nat) (S : FS) (sv' : Value) (L' : Int → Option (Int × Int)) (Q' : List Th) (nm' : Nat), iv = .int .i64 t ∧ Steps n zs hops mo (S0.begin n u) t S ∧ Rel n S L' Q' ∧ WB wB wr sb mb nm' c0 (.int .i64 skip) c2 (.int .i64 ((openG S G : Nat) : Int)) sv' L' Q' ∧ (t = 0 ∨ (t : Int) ≤ se) ∧ Q'.length ≤ 1 + t * n ∧ nm' ≤ 1 + t * n) (fun iv _ => n + 1 - (intOf iv).toNat)
  case atStart => exact ⟨0, S0.begin n u, sv1, _, Q1, 1, rfl, rfl, H1.out.2.1, H1.out.1, Or.inl rfl, by rw [H1.out.2.2]; omega, by omega⟩
  case round =>
    obtain ⟨t, S, sv', L', Q', nm', rfl, hst, hR, hw, hte, hq, hnm⟩ := hrel
    have hI := steps_inv HS.out.fine HI0.out t S hst
    have htn := steps_le HS.out.fine HI0.out hst
    have htm : t * n ≤ 1000000 := Nat.le_trans (Nat.mul_le_mul (Nat.le_trans htn HN.out) HN.out) (by omega)
    have HR : Hid (Steps n zs hops mo (S0.begin n u) t S ∧ Rel n S L' Q' ∧ WB wB wr sb mb nm' c0 (.int .i64 skip) c2 (.int .i64 ((openG S G : Nat) : Int)) sv' L' Q' ∧ (t = 0 ∨ (t : Int) ≤ se) ∧ Q'.length ≤ 1 + t * n ∧ nm' ≤ 1 + t * n ∧ SInv n zs hops u t S ∧ t ≤ n ∧ t * n ≤ 1000000) := ⟨hst, hR, hw, hte, hq, hnm, hI, htn, htm⟩
    obtain ⟨lf, hlf⟩ : ∃ lf, openG S G = lf := ⟨_, rfl⟩
    obtain ⟨_, _, _, m3, _, _⟩ := hw.s.cells
    rw [hlf] at m3
    have HLF : Hid (openG S G = lf) := hlf
    have tb : t < 1001 := by have := HN.out; omega
    clear hst hR hw hte hq hnm hI htn htm hlf
    by_cases h1 : (t : Int) < se
    · have j1 : decide ((t : Int) < se) = true := decide_eq_true h1
      rcases Nat.eq_zero_or_pos lf with h2 | h2
      · subst h2
        have HZ : Hid (∃ sv' L' Q' nm' c3 t S, WB wB wr sb mb nm' c0 (.int .i64 skip) c2 c3 sv' L' Q' ∧ Steps n zs hops mo (S0.begin n u) t S ∧ (t = 0 ∨ (t : Int) ≤ se) ∧ (RunEnd n se mo t S ∨ openG S G = 0) ∧ (∀ (v : Nat) (d : Int), S.vs[v]? = some (some d) → L' (v : Int) = some (d, S.hs v)) ∧ ∀ (v : Nat), S.vs[v]? = some none → L' (v : Int) = none) := ⟨sv', L', Q', nm', _, t, S, HR.out.2.2.1, HR.out.1, HR.out.2.2.2.1, Or.inr HLF.out, HR.out.2.1.lab, HR.out.2.1.non⟩
        go_wp2
        go_end0
        exact ⟨rfl, HZ.out⟩
      · have j2 : decide ((0 : Int) < (lf : Int)) = true := by simp; omega
        have j3 : (0 : Int) < (lf : Int) := by omega
        have HNE : Hid (type_of% (wnearest_calls HR.out.2.2.1.s HR.out.2.1 HR.out.2.2.2.2.2.2.1.opn (by have := HN.out; omega) (by have := HR.out; omega))) := wnearest_calls HR.out.2.2.1.s HR.out.2.1 HR.out.2.2.2.2.2.2.1.opn (by have := HN.out; omega) (by have := HR.out; omega)
        go_wp2_with fail
        refine HNE.out.mono ?_
        rintro e y5 ⟨s5, Q5, hs5, hf5, hl5, ⟨rfl, hno⟩ | ⟨v, k, rfl, hL, hR5⟩⟩
        · have HZ : Hid (∀ wx, Below y5.heap.size y5 wx → ∃ sv' L' Q' nm' c3 t S, WB wB wx sb mb nm' c0 (.int .i64 skip) c2 c3 sv' L' Q' ∧ Steps n zs hops mo (S0.begin n u) t S ∧ (t = 0 ∨ (t : Int) ≤ se) ∧ (RunEnd n se mo t S ∨ openG S G = 0) ∧ (∀ (v : Nat) (d : Int), S.vs[v]? = some (some d) → L' (v : Int) = some (d, S.hs v)) ∧ ∀ (v : Nat), S.vs[v]? = some none → L' (v : Int) = none) := fun wx hx => ⟨s5, L', Q5, nm', _, t, S, (HR.out.2.2.1.next hs5 hf5).up hx, HR.out.1, HR.out.2.2.2.1, Or.inl (Or.inr (Or.inl ⟨hno, HR.out.2.2.2.1⟩)), HR.out.2.1.lab, HR.out.2.1.non⟩
          clear hs5 hf5 hl5 hno HNE m3
          go_wp2
          refine bodyPost_ret (v := .tuple #[]) (by simp [results, Tryz.results103]) rfl ?_
          exact ⟨rfl, HZ.out _ ((Below.refl _ _).alloc (Nat.le_refl _) _)⟩
        · obtain ⟨W6, hW6⟩ : ∃ W6, y5.alloc (.cells #[.int .u64 k, .int .i64 (v : Int)] 227) = W6 := ⟨_, rfl⟩
          have HW6 : Hid (y5.alloc (.cells #[.int .u64 k, .int .i64 (v : Int)] 227) = W6) := hW6
          have hB6 : Below y5.heap.size y5 W6 := by rw [← hW6]; exact (Below.refl _ _).alloc (Nat.le_refl _) _
          have hbx6 : W6.heap[y5.heap.size]? = some (.cells #[.int .u64 k, .int .i64 (v : Int)] 227) := by rw [← hW6]; exact heap_new _ _
          have HB6 : Hid (WB wB W6 sb mb nm' c0 (.int .i64 skip) c2 (.int .i64 ((openG S G : Nat) : Int)) s5 L' Q5 ∧ Rel n (S.pop v) L' Q5 ∧ Q5.length ≤ Q'.length ∧ Least n S.f v k) := ⟨(HR.out.2.2.1.next hs5 hf5).up hB6, hR5, hl5, hL⟩
          have l0 : W6.cell? ⟨y5.heap.size, 0, none⟩ = some (.int .u64 k) := cell_ofW hbx6 rfl
          have l1 : W6.cell? ⟨y5.heap.size, 1, none⟩ = some (.int .i64 (v : Int)) := cell_ofW hbx6 rfl
          clear hs5 hf5 hl5 hL hR5 hW6 hB6 hbx6 HNE m3
          go_upto_region 5 with fail
          rw [HW6.out]
          by_cases h3 : mo < k
          · have j4 : decide (mo < k) = true := decide_eq_true h3
            have HZ : Hid (∃ sv' L' Q' nm' c3 t S, WB wB W6 sb mb nm' c0 (.int .i64 skip) c2 c3 sv' L' Q' ∧ Steps n zs hops mo (S0.begin n u) t S ∧ (t = 0 ∨ (t : Int) ≤ se) ∧ (RunEnd n se mo t S ∨ openG S G = 0) ∧ (∀ (v : Nat) (d : Int), S.vs[v]? = some (some d) → L' (v : Int) = some (d, S.hs v)) ∧ ∀ (v : Nat), S.vs[v]? = some none → L' (v : Int) = none) := ⟨s5, L', Q5, nm', _, t, S, HB6.out.1, HR.out.1, HR.out.2.2.2.1, Or.inl (Or.inr (Or.inr ⟨v, k, HB6.out.2.2.2, h3, HR.out.2.2.2.1⟩)), HR.out.2.1.lab, HR.out.2.1.non⟩
            clear h3
            go_wp2
            refine bodyPost_ret (v := .tuple #[]) (by simp [results, Tryz.results103]) rfl ?_
            exact ⟨rfl, HZ.out⟩
          · have j4 : decide (mo < k) = false := decide_eq_false h3
            have hvs := HR.out.2.2.2.2.2.2.1.opn v k HB6.out.2.2.2.1 HB6.out.2.2.2.2.1
            have hla := HR.out.2.2.2.2.2.2.1.lab v k hvs
            have HSL : Hid (type_of% (wsettle_calls HS.out ((openG S G : Nat) : Int) HB6.out.1 HB6.out.2.2.2.1 hvs HB6.out.2.1 hops HN.out (by have h2 := hla.2.1; have h4 := hla.2.2.2.1; have := HN.out; have := HR.out.2.2.2.2.2.2.2.1; exact ⟨hla.1, by omega⟩) (by have h4 := hla.2.2.2.1; have := HN.out; have := HR.out.2.2.2.2.2.2.2.1; exact ⟨hla.2.2.1, by omega⟩) (by have := HR.out.2.2.2.2; have := HB6.out.2.2.1; omega) (by have := HR.out.2.2.2.2; omega) (by have h5 : openG S G ≤ G.length := List.countP_le_length; have := HGG.out.2.2.1; omega))) := wsettle_calls HS.out ((openG S G : Nat) : Int) HB6.out.1 HB6.out.2.2.2.1 hvs HB6.out.2.1 hops HN.out (by have h2 := hla.2.1; have h4 := hla.2.2.2.1; have := HN.out; have := HR.out.2.2.2.2.2.2.2.1; exact ⟨hla.1, by omega⟩) (by have h4 := hla.2.2.2.1; have := HN.out; have := HR.out.2.2.2.2.2.2.2.1; exact ⟨hla.2.2.1, by omega⟩) (by have := HR.out.2.2.2.2; have := HB6.out.2.2.1; omega) (by have := HR.out.2.2.2.2; omega) (by have h5 : openG S G ≤ G.length := List.countP_le_length; have := HGG.out.2.2.1; omega)
            have HLT : Hid (t < n) := HR.out.2.2.2.2.2.2.1.lt HB6.out.2.2.2
            have HK : Hid (k ≤ mo ∧ (t : Int) < se) := ⟨by omega, h1⟩
            clear hvs hla h3
            go_wp2_with fail
            refine HSL.out.mono ?_
            rintro e y7 ⟨rfl, s7, L7, Q7, nm7, hw7, hR7, hl7, hn7⟩
            have H7 : Hid (WB wB y7 sb mb nm7 c0 (.int .i64 skip) c2 (.int .i64 ((openG (S.step zs hops v k) G : Nat) : Int)) s7 L7 Q7 ∧ Rel n (S.step zs hops v k) L7 Q7 ∧ Q7.length ≤ 1 + (t + 1) * n ∧ nm7 ≤ 1 + (t + 1) * n) := ⟨by rw [openG_step HS.out.fine HR.out.2.2.2.2.2.2.1 HB6.out.2.2.2 HGG.out.1 HGG.out.2.1]; exact hw7, hR7, by have := HR.out.2.2.2.2.1; have := HB6.out.2.2.1; rw [Nat.add_mul]; omega, by have := HR.out.2.2.2.2.2.1; rw [Nat.add_mul]; omega⟩
            clear hw7 hR7 hl7 hn7 HSL l0 l1
            go_wp2
            go_roundw
            case rel => exact ⟨t + 1, S.step zs hops v k, s7, L7, Q7, nm7, by go_num, ⟨S, v, k, HR.out.1, HB6.out.2.2.2, HK.out.1, rfl⟩, H7.out.2.1, H7.out.1, Or.inr (by have := HK.out.2; omega), H7.out.2.2.1, H7.out.2.2.2⟩
            case measure => have := HLT.out; simp [intOf]; omega
    · have j1 : decide ((t : Int) < se) = false := decide_eq_false h1
      have HZ : Hid (∃ sv' L' Q' nm' c3 t S, WB wB wr sb mb nm' c0 (.int .i64 skip) c2 c3 sv' L' Q' ∧ Steps n zs hops mo (S0.begin n u) t S ∧ (t = 0 ∨ (t : Int) ≤ se) ∧ (RunEnd n se mo t S ∨ openG S G = 0) ∧ (∀ (v : Nat) (d : Int), S.vs[v]? = some (some d) → L' (v : Int) = some (d, S.hs v)) ∧ ∀ (v : Nat), S.vs[v]? = some none → L' (v : Int) = none) := ⟨sv', L', Q', nm', _, t, S, HR.out.2.2.1, HR.out.1, HR.out.2.2.2.1, Or.inl (Or.inl ⟨h1, HR.out.2.2.2.1⟩), HR.out.2.1.lab, HR.out.2.1.non⟩
      clear h1
      go_wp2
      go_end0
      exact ⟨rfl, HZ.out⟩
end
end Go.Proofs.YtbkclhaonbjobaaGreatDoor.Wt

namespace Go.Proofs.YtbkclhaonbjobaaGreatDoor.Wt
open Go Go.RowKit Go.Extern Go.Deep

attribute [local go_sem] Oper.semAt_some

/-- what is answered for a goal. -/
def ansG (L : Int → Option (Int × Int)) (g : Int) : Int := match L g with | some p => p.1 | none => 18446744073709551615
/-- the answers so far. -/
def ansL (L : Int → Option (Int × Int)) (gs : List Int) (i : Nat) : List Int := (gs.take i).map (ansG L) ++ List.replicate (gs.length - i) 0
theorem ansL_zero (L : Int → Option (Int × Int)) (gs : List Int) : ansL L gs 0 = List.replicate gs.length 0 := by simp [ansL]
theorem ansL_all (L : Int → Option (Int × Int)) (gs : List Int) : ansL L gs gs.length = gs.map (ansG L) := by simp [ansL]
theorem ansL_set {L : Int → Option (Int × Int)} {gs : List Int} {i : Nat} {g : Int} (h : gs[i]? = some g) : (ansL L gs i).set i (ansG L g) = ansL L gs (i + 1) := by
  have hl := (List.getElem?_eq_some_iff.1 h).1
  have h1 : ((gs.take i).map (ansG L)).length = i := by rw [List.length_map, List.length_take]; omega
  unfold ansL
  rw [List.set_append_right _ _ (by omega), h1, Nat.sub_self, List.take_add_one, h]
  rw [show gs.length - i = (gs.length - (i + 1)) + 1 by omega, List.replicate_succ, List.set_cons_zero]
  simp
theorem ansL_len (L : Int → Option (Int × Int)) (gs : List Int) {i : Nat} (h : i ≤ gs.length) : (ansL L gs i).length = gs.length := by
  unfold ansL
  rw [List.length_append, List.length_map, List.length_take, List.length_replicate]
  omega
section
variable {w : World} {sb mb nm : Nat} {c0 c1 c2 c3 sv : Value} {L : Int → Option (Int × Int)} {Q : List Th}
set_option maxRecDepth 100000 in
set_option maxHeartbeats 4000000 in
theorem wdist_calls (h : WS w sb mb nm c0 c1 c2 c3 sv L Q) (go : Option Addr) (gc : Nat) (gs : List Int) (hg : HasInts w (.slice go gs.length gc) gs) (hgw : ∀ g ∈ gs, (Lit.int .i64 g).wf = true) (hl : gs.length ≤ 1000000) :
    Calls Tryz.prog 104 #[.pointer (some ⟨sb, 0, none⟩), .slice go gs.length gc] w fun e w' => ∃ db, e = .returned (.slice (some ⟨db, 0, none⟩) gs.length gs.length) ∧ w.heap.size ≤ db ∧ U64s w' db (gs.map (ansG L)) ∧ Below w.heap.size w w' := by
  have hmk := fun wx => run_make_row' (P := Tryz.prog) 130 66 (.int .u64 0) 8 Tryz.underlying130 infoU rfl .i64 .i64 gs.length (by omega) (by omega) wx
  obtain ⟨db, hdb⟩ : ∃ db, w.heap.size = db := ⟨_, rfl⟩
  obtain ⟨W1, hW1⟩ : ∃ W1, w.alloc (.cells (madeCells #[.int .u64 0] gs.length) 66) = W1 := ⟨_, rfl⟩
  have HW1 : Hid (w.alloc (.cells (madeCells #[.int .u64 0] gs.length) 66) = W1) := hW1
  have hB1 : Below w.heap.size w W1 := by rw [← hW1]; exact (Below.refl _ w).alloc (Nat.le_refl _) _
  have H1 : Hid (U64s W1 db (ansL L gs 0) ∧ Below w.heap.size w W1) := ⟨by rw [ansL_zero, ← hW1, ← hdb]; exact made_u64s w gs.length, hB1⟩
  have HD : Hid (w.heap.size = db) := hdb
  have HH : Hid (WS w sb mb nm c0 c1 c2 c3 sv L Q ∧ HasInts w (.slice go gs.length gc) gs ∧ ∀ g ∈ gs, (Lit.int .i64 g).wf = true) := ⟨h, hg, hgw⟩
  clear h hg hgw hW1 hB1
  go_enter Tryz.func104, Tryz.ntmps104
  go_upto_region 2 with fail
  rw [HW1.out]
  try rw [HD.out]
  clear hmk hdb
  go_wp2_with fail
  go_loopw [15] (fun iv wr => ∃ i : Nat, iv = .int .i64 i ∧ i ≤ gs.length ∧ U64s wr db (ansL L gs i) ∧ Below w.heap.size w wr) (fun iv _ => gs.length - (intOf iv).toNat)
  case atStart => exact ⟨0, rfl, Nat.zero_le _, H1.out.1, H1.out.2⟩
  case round =>
    obtain ⟨i, rfl, hi, hu, hb⟩ := hrel
    by_cases hlt : i < gs.length
    · obtain ⟨g, hgi⟩ : ∃ g, gs[i]? = some g := ⟨gs[i], List.getElem?_eq_getElem hlt⟩
      have hws := HH.out.1.up hb
      obtain ⟨b, off, hgo, bl, p0⟩ := (HH.out.2.1.keep hb).at hgi
      subst hgo
      have hal := ansL_len L gs hi
      obtain ⟨x0, hx0⟩ : ∃ x, (ansL L gs i)[i]? = some x := ⟨_, List.getElem?_eq_getElem (by omega)⟩
      obtain ⟨u0, u1, u2⟩ := hu.at hx0
      have hset := hu.set i 18446744073709551615
      have hb2 : Below w.heap.size w (wr.setCell ⟨db, i, none⟩ (.int .u64 18446744073709551615)) := hb.setCell (p := ⟨db, i, none⟩) (by show w.heap.size ≤ db; rw [HD.out]; exact Nat.le_refl _) _
      obtain ⟨W2, hW2⟩ : ∃ W2, wr.setCell ⟨db, i, none⟩ (.int .u64 18446744073709551615) = W2 := ⟨_, rfl⟩
      have HW2 : Hid (wr.setCell ⟨db, i, none⟩ (.int .u64 18446744073709551615) = W2) := hW2
      rw [hW2] at hset hb2
      have hws2 := HH.out.1.up hb2
      obtain ⟨⟨kd, kg⟩, hkd⟩ : ∃ p, (L g).getD (0, 0) = p := ⟨_, rfl⟩
      obtain ⟨hs, hhs⟩ : ∃ s, (L g).isSome = s := ⟨_, rfl⟩
      have hLk : (Instr.lookup 218 (.map (some mb)) (.int .i64 g) true).run Tryz.prog W2 = .ok (.tuple #[.agg #[.int .u64 kd, .int .i64 kg], .bool hs]) W2 := by
        have h1 := hws2.m.lookOk (HH.out.2.2 g (List.mem_of_getElem? hgi))
        rw [hkd, hhs] at h1
        exact h1
      have HA : Hid (gs[i]? = some g ∧ (L g).getD (0, 0) = (kd, kg) ∧ (L g).isSome = hs ∧ U64s W2 db ((ansL L gs i).set i 18446744073709551615) ∧ Below w.heap.size w W2) := ⟨hgi, hkd, hhs, hset, hb2⟩
      obtain ⟨_, _, _, _, m4, _⟩ := hws2.cells
      have i1 : (i : Int) < (gs.length : Int) := by omega
      have i2 : (0 : Int) ≤ (i : Int) := by omega
      have ib : i < 1000000 := by omega
      clear hgi hws hal hx0 hu hset hb hb2 hW2 hws2 hkd hhs
      go_upto_region 6 with fail
      rw [HW2.out]
      clear u0 u1 u2 p0
      cases hs with
      | false =>
        have HF : Hid (U64s W2 db (ansL L gs (i + 1))) := by
          have h1 := HA.out.2.2.2.1
          have h2 : ansG L g = 18446744073709551615 := by
            unfold ansG
            cases hL : L g with
            | none => rfl
            | some p => have := HA.out.2.2.1; rw [hL] at this; cases this
          rw [← ansL_set HA.out.1, h2]
          exact h1
        go_wp2
        go_roundw
        case rel => exact ⟨i + 1, by go_num, by omega, (((Below.refl _ W2).alloc (Nat.le_refl _) _).block _ (lt_of_get HF.out)).trans HF.out, HA.out.2.2.2.2.trans (((Below.refl _ W2).alloc (Nat.le_refl _) _).mono HA.out.2.2.2.2.size)⟩
        case measure => simp [intOf]; omega
      | true =>
        obtain ⟨W3, hW3⟩ : ∃ W3, W2.alloc (.cells #[.int .u64 kd, .int .i64 kg] 225) = W3 := ⟨_, rfl⟩
        have HW3 : Hid (W2.alloc (.cells #[.int .u64 kd, .int .i64 kg] 225) = W3) := hW3
        have hB3 : Below W2.heap.size W2 W3 := by rw [← hW3]; exact (Below.refl _ _).alloc (Nat.le_refl _) _
        have hbx : W3.heap[W2.heap.size]? = some (.cells #[.int .u64 kd, .int .i64 kg] 225) := by rw [← hW3]; exact heap_new _ _
        have hu3 : U64s W3 db ((ansL L gs i).set i 18446744073709551615) := (hB3.block _ (lt_of_get HA.out.2.2.2.1)).trans HA.out.2.2.2.1
        have q0 : W3.cell? ⟨W2.heap.size, 0, none⟩ = some (.int .u64 kd) := cell_ofW hbx rfl
        obtain ⟨u0, u1, u2⟩ := hu3.at (k := i) (x := 18446744073709551615) (by rw [List.getElem?_set]; rw [if_pos rfl, if_pos (by rw [ansL_len L gs hi]; exact hlt)])
        have hset := hu3.set i kd
        have HF : Hid (U64s (W3.setCell ⟨db, i, none⟩ (.int .u64 kd)) db (ansL L gs (i + 1)) ∧ Below w.heap.size w (W3.setCell ⟨db, i, none⟩ (.int .u64 kd))) := ⟨by
          have h2 : ansG L g = kd := by
            unfold ansG
            cases hL : L g with
            | none => have := HA.out.2.2.1; rw [hL] at this; cases this
            | some p => have := HA.out.2.1; rw [hL] at this; simp at this; rw [this]
          rw [List.set_set] at hset
          rw [← ansL_set HA.out.1, h2]
          exact hset, (HA.out.2.2.2.2.trans (hB3.mono HA.out.2.2.2.2.size)).setCell (p := ⟨db, i, none⟩) (by show w.heap.size ≤ db; rw [HD.out]; exact Nat.le_refl _) _⟩
        clear hW3 hB3 hbx hu3 hset
        go_upto_region 8 with fail
        rw [HW3.out]
        clear hLk m4
        go_wp2
        go_roundw
        case rel => exact ⟨i + 1, by go_num, by omega, HF.out.1, HF.out.2⟩
        case measure => simp [intOf]; omega
    · obtain rfl : i = gs.length := by omega
      rw [ansL_all] at hu
      have HZ : Hid (U64s wr db (gs.map (ansG L)) ∧ Below w.heap.size w wr) := ⟨hu, hb⟩
      clear hu hb
      go_wp2
      go_ret
      exact ⟨db, rfl, by rw [HD.out]; exact Nat.le_refl _, HZ.out.1, HZ.out.2⟩
end
end Go.Proofs.YtbkclhaonbjobaaGreatDoor.Wt
