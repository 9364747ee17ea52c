/- The search's run, walked. (genwty.py) -/
import Derived.Test.YtbkclhaonbjobaaGreatWtX
namespace Go.Proofs.YtbkclhaonbjobaaGreat.Wt
open Go Go.RowKit Go.Extern

attribute [local go_sem] Oper.semAt_some

/-- what run leaves. -/
def WRunA (wB : World) (n : Nat) (zs : List (Int × Int × Int)) (G : List Int) (hops se mo : Int) (S1 : FS) (sb mb : Nat) (c0 c1 c2 : Value) (e : Ending) (w' : World) : Prop := e = .returned (.tuple #[]) ∧ ∃ sv' L' Q' nm' c3 t S, WB wB w' sb mb nm' c0 c1 c2 c3 sv' L' Q' ∧ Steps n zs hops mo S1 t S ∧ (t = 0 ∨ (t : Int) ≤ se) ∧ (RunEnd n se mo t S ∨ openG S G = 0) ∧ (∀ (v : Nat) (d : Int), S.vs[v]? = some (some d) → L' (v : Int) = some (d, S.hs v)) ∧ ∀ (v : Nat), S.vs[v]? = some none → L' (v : Int) = none
section
variable {wB w : World} {n sb mb : Nat} {c0 c2 : Value} {skip : Int} {G : List Int} {rowv : Nat → List (Int × Int × Int)} {zs : List (Int × Int × Int)}
set_option maxRecDepth 100000 in
set_option maxHeartbeats 8000000 in
theorem wrun_calls (hs : Srr wB n c0 c2 skip G rowv zs) (hb : WB wB w sb mb 0 c0 (.int .i64 skip) c2 (.int .i64 ((G.length : Nat) : Int)) (.slice none 0 0) (fun _ => none) []) (hG : G.Nodup) (hG0 : ∀ g ∈ G, 0 ≤ g) (hGl : G.length ≤ 1000) {u : Nat} (hu : u < n) (hn : n ≤ 1000) (hops se mo : Int) (S0 : FS) :
    Calls Tryz.prog 90 #[.pointer (some ⟨sb, 0, none⟩), .int .i64 u, .int .u64 mo, .int .i64 hops, .int .i64 se] w fun e w' => WRunA wB n zs G hops se mo (S0.begin n u) sb mb c0 (.int .i64 skip) c2 e w' := by
  have HS : Hid (Srr wB n c0 c2 skip G rowv zs) := hs
  have HN : Hid (n ≤ 1000) := hn
  have HI0 : Hid (SInv n zs hops u 0 (S0.begin n u)) := start_inv hu _ rfl rfl
  have HSE : Hid (Calls Tryz.prog 102 #[.pointer (some ⟨sb, 0, none⟩), .int .i64 u, .agg #[.int .u64 0, .int .i64 0]] w _) := wset_calls hb.s (u : Int) (wf_nat (v := u) (by omega)) 0 0 (by simp) (by unfold maxLen; omega)
  have HB : Hid (WB wB w sb mb 0 c0 (.int .i64 skip) c2 (.int .i64 ((G.length : Nat) : Int)) (.slice none 0 0) (fun _ => none) []) := hb
  have HGG : Hid (G.Nodup ∧ (∀ g ∈ G, 0 ≤ g) ∧ G.length ≤ 1000 ∧ openG (S0.begin n u) G = G.length) := ⟨hG, hG0, hGl, by
    unfold openG
    rw [List.countP_eq_length]
    intro g _
    have : (S0.begin n u).fix g.toNat = false := by
      cases h : (S0.begin n u).fix g.toNat with
      | false => rfl
      | true =>
        obtain ⟨⟨d, h1⟩, h2⟩ := FS.fix_iff.1 h
        exfalso
        have h1' : ((List.replicate n (none : Option Int)).set u (some 0))[g.toNat]? = some (some d) := h1
        have h2' : upd (fun _ => none) (u : Int) (some 0) ((g.toNat : Nat) : Int) = none := h2
        rw [upd_at] at h2'
        split at h2'
        · cases h2'
        · rename_i e
          rw [List.getElem?_set, if_neg (fun e2 => e e2.symm), List.getElem?_replicate] at h1'
          split at h1' <;> cases h1'
    rw [this]; rfl⟩
  clear hs hb hG hG0 hGl hu hn
  go_enter Tryz.func90, Tryz.ntmps90
  go_wp2_with fail
  refine HSE.out.mono ?_
  rintro e y1 ⟨rfl, sv1, Q1, hs1, hf1, hp1⟩
  have H1 : Hid (WB wB y1 sb mb 1 c0 (.int .i64 skip) c2 (.int .i64 ((openG (S0.begin n u) G : Nat) : Int)) sv1 (updL (fun _ => none) (u : Int) (0, 0)) Q1 ∧ Rel n (S0.begin n u) (updL (fun _ => none) (u : Int) (0, 0)) Q1 ∧ Q1.length = 1) := ⟨by rw [HGG.out.2.2.2]; exact HB.out.next hs1 hf1, (Rel.begin n S0 (by have := HI0.out.src; have h2 := (List.getElem?_eq_some_iff.1 this).1; rw [HI0.out.lv] at h2; exact h2)).perm hp1.symm, by rw [hp1.length_eq]; rfl⟩
  clear hs1 hf1 hp1 HSE
  go_wp2_with fail
  go_loopw [10] (fun iv wr => ∃ (t : Nat) (S : FS) (sv' : Value) (L' : Int → Option (Int × Int)) (Q' : List Th) (nm' : Nat), iv = .int .i64 t ∧ Steps n zs hops mo (S0.begin n u) t S ∧ Rel n S L' Q' ∧ WB wB wr sb mb nm' c0 (.int .i64 skip) c2 (.int .i64 ((openG S G : Nat) : Int)) sv' L' Q' ∧ (t = 0 ∨ (t : Int) ≤ se) ∧ Q'.length ≤ 1 + t * n ∧ nm' ≤ 1 + t * n) (fun iv _ => n + 1 - (intOf iv).toNat)
  case atStart => exact ⟨0, S0.begin n u, sv1, _, Q1, 1, rfl, rfl, H1.out.2.1, H1.out.1, Or.inl rfl, by rw [H1.out.2.2]; omega, by omega⟩
  case round =>
    obtain ⟨t, S, sv', L', Q', nm', rfl, hst, hR, hw, hte, hq, hnm⟩ := hrel
    have hI := steps_inv HS.out.fine HI0.out t S hst
    have htn := steps_le HS.out.fine HI0.out hst
    have htm : t * n ≤ 1000000 := Nat.le_trans (Nat.mul_le_mul (Nat.le_trans htn HN.out) HN.out) (by omega)
    have HR : Hid (Steps n zs hops mo (S0.begin n u) t S ∧ Rel n S L' Q' ∧ WB wB wr sb mb nm' c0 (.int .i64 skip) c2 (.int .i64 ((openG S G : Nat) : Int)) sv' L' Q' ∧ (t = 0 ∨ (t : Int) ≤ se) ∧ Q'.length ≤ 1 + t * n ∧ nm' ≤ 1 + t * n ∧ SInv n zs hops u t S ∧ t ≤ n ∧ t * n ≤ 1000000) := ⟨hst, hR, hw, hte, hq, hnm, hI, htn, htm⟩
    obtain ⟨lf, hlf⟩ : ∃ lf, openG S G = lf := ⟨_, rfl⟩
    obtain ⟨_, _, _, m3, _, _⟩ := hw.s.cells
    rw [hlf] at m3
    have HLF : Hid (openG S G = lf) := hlf
    have tb : t < 1001 := by have := HN.out; omega
    clear hst hR hw hte hq hnm hI htn htm hlf
    by_cases h1 : (t : Int) < se
    · have j1 : decide ((t : Int) < se) = true := decide_eq_true h1
      rcases Nat.eq_zero_or_pos lf with h2 | h2
      · subst h2
        have HZ : Hid (∃ sv' L' Q' nm' c3 t S, WB wB wr sb mb nm' c0 (.int .i64 skip) c2 c3 sv' L' Q' ∧ Steps n zs hops mo (S0.begin n u) t S ∧ (t = 0 ∨ (t : Int) ≤ se) ∧ (RunEnd n se mo t S ∨ openG S G = 0) ∧ (∀ (v : Nat) (d : Int), S.vs[v]? = some (some d) → L' (v : Int) = some (d, S.hs v)) ∧ ∀ (v : Nat), S.vs[v]? = some none → L' (v : Int) = none) := ⟨sv', L', Q', nm', _, t, S, HR.out.2.2.1, HR.out.1, HR.out.2.2.2.1, Or.inr HLF.out, HR.out.2.1.lab, HR.out.2.1.non⟩
        go_wp2
        go_end0
        exact ⟨rfl, HZ.out⟩
      · have j2 : decide ((0 : Int) < (lf : Int)) = true := by simp; omega
        have j3 : (0 : Int) < (lf : Int) := by omega
        have HNE : Hid (type_of% (wnearest_calls HR.out.2.2.1.s HR.out.2.1 HR.out.2.2.2.2.2.2.1.opn (by have := HN.out; omega) (by have := HR.out; omega))) := wnearest_calls HR.out.2.2.1.s HR.out.2.1 HR.out.2.2.2.2.2.2.1.opn (by have := HN.out; omega) (by have := HR.out; omega)
        go_wp2_with fail
        refine HNE.out.mono ?_
        rintro e y5 ⟨s5, Q5, hs5, hf5, hl5, ⟨rfl, hno⟩ | ⟨v, k, rfl, hL, hR5⟩⟩
        · have HZ : Hid (∀ wx, Below y5.heap.size y5 wx → ∃ sv' L' Q' nm' c3 t S, WB wB wx sb mb nm' c0 (.int .i64 skip) c2 c3 sv' L' Q' ∧ Steps n zs hops mo (S0.begin n u) t S ∧ (t = 0 ∨ (t : Int) ≤ se) ∧ (RunEnd n se mo t S ∨ openG S G = 0) ∧ (∀ (v : Nat) (d : Int), S.vs[v]? = some (some d) → L' (v : Int) = some (d, S.hs v)) ∧ ∀ (v : Nat), S.vs[v]? = some none → L' (v : Int) = none) := fun wx hx => ⟨s5, L', Q5, nm', _, t, S, (HR.out.2.2.1.next hs5 hf5).up hx, HR.out.1, HR.out.2.2.2.1, Or.inl (Or.inr (Or.inl ⟨hno, HR.out.2.2.2.1⟩)), HR.out.2.1.lab, HR.out.2.1.non⟩
          clear hs5 hf5 hl5 hno HNE m3
          go_wp2
          refine bodyPost_ret (v := .tuple #[]) (by simp [results, Tryz.results90]) rfl ?_
          exact ⟨rfl, HZ.out _ ((Below.refl _ _).alloc (Nat.le_refl _) _)⟩
        · obtain ⟨W6, hW6⟩ : ∃ W6, y5.alloc (.cells #[.int .u64 k, .int .i64 (v : Int)] 182) = W6 := ⟨_, rfl⟩
          have HW6 : Hid (y5.alloc (.cells #[.int .u64 k, .int .i64 (v : Int)] 182) = W6) := hW6
          have hB6 : Below y5.heap.size y5 W6 := by rw [← hW6]; exact (Below.refl _ _).alloc (Nat.le_refl _) _
          have hbx6 : W6.heap[y5.heap.size]? = some (.cells #[.int .u64 k, .int .i64 (v : Int)] 182) := by rw [← hW6]; exact heap_new _ _
          have HB6 : Hid (WB wB W6 sb mb nm' c0 (.int .i64 skip) c2 (.int .i64 ((openG S G : Nat) : Int)) s5 L' Q5 ∧ Rel n (S.pop v) L' Q5 ∧ Q5.length ≤ Q'.length ∧ Least n S.f v k) := ⟨(HR.out.2.2.1.next hs5 hf5).up hB6, hR5, hl5, hL⟩
          have l0 : W6.cell? ⟨y5.heap.size, 0, none⟩ = some (.int .u64 k) := cell_ofW hbx6 rfl
          have l1 : W6.cell? ⟨y5.heap.size, 1, none⟩ = some (.int .i64 (v : Int)) := cell_ofW hbx6 rfl
          clear hs5 hf5 hl5 hL hR5 hW6 hB6 hbx6 HNE m3
          go_upto_region 5 with fail
          rw [HW6.out]
          by_cases h3 : mo < k
          · have j4 : decide (mo < k) = true := decide_eq_true h3
            have HZ : Hid (∃ sv' L' Q' nm' c3 t S, WB wB W6 sb mb nm' c0 (.int .i64 skip) c2 c3 sv' L' Q' ∧ Steps n zs hops mo (S0.begin n u) t S ∧ (t = 0 ∨ (t : Int) ≤ se) ∧ (RunEnd n se mo t S ∨ openG S G = 0) ∧ (∀ (v : Nat) (d : Int), S.vs[v]? = some (some d) → L' (v : Int) = some (d, S.hs v)) ∧ ∀ (v : Nat), S.vs[v]? = some none → L' (v : Int) = none) := ⟨s5, L', Q5, nm', _, t, S, HB6.out.1, HR.out.1, HR.out.2.2.2.1, Or.inl (Or.inr (Or.inr ⟨v, k, HB6.out.2.2.2, h3, HR.out.2.2.2.1⟩)), HR.out.2.1.lab, HR.out.2.1.non⟩
            clear h3
            go_wp2
            refine bodyPost_ret (v := .tuple #[]) (by simp [results, Tryz.results90]) rfl ?_
            exact ⟨rfl, HZ.out⟩
          · have j4 : decide (mo < k) = false := decide_eq_false h3
            have hvs := HR.out.2.2.2.2.2.2.1.opn v k HB6.out.2.2.2.1 HB6.out.2.2.2.2.1
            have hla := HR.out.2.2.2.2.2.2.1.lab v k hvs
            have HSL : Hid (type_of% (wsettle_calls HS.out ((openG S G : Nat) : Int) HB6.out.1 HB6.out.2.2.2.1 hvs HB6.out.2.1 hops HN.out (by have h2 := hla.2.1; have h4 := hla.2.2.2.1; have := HN.out; have := HR.out.2.2.2.2.2.2.2.1; exact ⟨hla.1, by omega⟩) (by have h4 := hla.2.2.2.1; have := HN.out; have := HR.out.2.2.2.2.2.2.2.1; exact ⟨hla.2.2.1, by omega⟩) (by have := HR.out.2.2.2.2; have := HB6.out.2.2.1; omega) (by have := HR.out.2.2.2.2; omega) (by have h5 : openG S G ≤ G.length := List.countP_le_length; have := HGG.out.2.2.1; omega))) := wsettle_calls HS.out ((openG S G : Nat) : Int) HB6.out.1 HB6.out.2.2.2.1 hvs HB6.out.2.1 hops HN.out (by have h2 := hla.2.1; have h4 := hla.2.2.2.1; have := HN.out; have := HR.out.2.2.2.2.2.2.2.1; exact ⟨hla.1, by omega⟩) (by have h4 := hla.2.2.2.1; have := HN.out; have := HR.out.2.2.2.2.2.2.2.1; exact ⟨hla.2.2.1, by omega⟩) (by have := HR.out.2.2.2.2; have := HB6.out.2.2.1; omega) (by have := HR.out.2.2.2.2; omega) (by have h5 : openG S G ≤ G.length := List.countP_le_length; have := HGG.out.2.2.1; omega)
            have HLT : Hid (t < n) := HR.out.2.2.2.2.2.2.1.lt HB6.out.2.2.2
            have HK : Hid (k ≤ mo ∧ (t : Int) < se) := ⟨by omega, h1⟩
            clear hvs hla h3
            go_wp2_with fail
            refine HSL.out.mono ?_
            rintro e y7 ⟨rfl, s7, L7, Q7, nm7, hw7, hR7, hl7, hn7⟩
            have H7 : Hid (WB wB y7 sb mb nm7 c0 (.int .i64 skip) c2 (.int .i64 ((openG (S.step zs hops v k) G : Nat) : Int)) s7 L7 Q7 ∧ Rel n (S.step zs hops v k) L7 Q7 ∧ Q7.length ≤ 1 + (t + 1) * n ∧ nm7 ≤ 1 + (t + 1) * n) := ⟨by rw [openG_step HS.out.fine HR.out.2.2.2.2.2.2.1 HB6.out.2.2.2 HGG.out.1 HGG.out.2.1]; exact hw7, hR7, by have := HR.out.2.2.2.2.1; have := HB6.out.2.2.1; rw [Nat.add_mul]; omega, by have := HR.out.2.2.2.2.2.1; rw [Nat.add_mul]; omega⟩
            clear hw7 hR7 hl7 hn7 HSL l0 l1
            go_wp2
            go_roundw
            case rel => exact ⟨t + 1, S.step zs hops v k, s7, L7, Q7, nm7, by go_num, ⟨S, v, k, HR.out.1, HB6.out.2.2.2, HK.out.1, rfl⟩, H7.out.2.1, H7.out.1, Or.inr (by have := HK.out.2; omega), H7.out.2.2.1, H7.out.2.2.2⟩
            case measure => have := HLT.out; simp [intOf]; omega
    · have j1 : decide ((t : Int) < se) = false := decide_eq_false h1
      have HZ : Hid (∃ sv' L' Q' nm' c3 t S, WB wB wr sb mb nm' c0 (.int .i64 skip) c2 c3 sv' L' Q' ∧ Steps n zs hops mo (S0.begin n u) t S ∧ (t = 0 ∨ (t : Int) ≤ se) ∧ (RunEnd n se mo t S ∨ openG S G = 0) ∧ (∀ (v : Nat) (d : Int), S.vs[v]? = some (some d) → L' (v : Int) = some (d, S.hs v)) ∧ ∀ (v : Nat), S.vs[v]? = some none → L' (v : Int) = none) := ⟨sv', L', Q', nm', _, t, S, HR.out.2.2.1, HR.out.1, HR.out.2.2.2.1, Or.inl (Or.inl ⟨h1, HR.out.2.2.2.1⟩), HR.out.2.1.lab, HR.out.2.1.non⟩
      clear h1
      go_wp2
      go_end0
      exact ⟨rfl, HZ.out⟩
end
end Go.Proofs.YtbkclhaonbjobaaGreat.Wt
