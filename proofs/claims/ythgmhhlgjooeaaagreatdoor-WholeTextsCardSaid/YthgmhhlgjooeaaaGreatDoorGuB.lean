/- gtext's Print, walked. -/
import Derived.Test.YthgmhhlgjooeaaaGreatDoorGuA
import Derived.Test.YthgmhhlgjooeaaaGreatDoorCheck
namespace Go.Proofs.YthgmhhlgjooeaaaGreatDoor.Gt
open Go Go.Lib Go.RowKit Go.Extern Hi

attribute [local go_sem] Oper.semAt_some

theorem firstBad_none {N : Int} : ∀ {xs : List Arc3} {i : Nat}, firstBad N xs i = none → ∀ a ∈ xs, arcBad N a = 0
  | [], _, _ => by simp
  | a :: r, i, h => by
    rw [firstBad] at h
    split at h
    · rename_i h1
      intro b hb
      rcases List.mem_cons.1 hb with rfl | hb
      · exact h1
      · exact firstBad_none h b hb
    · cases h
theorem firstBad_of {N : Int} : ∀ {xs : List Arc3} {i : Nat}, (∀ a ∈ xs, arcBad N a = 0) → firstBad N xs i = none
  | [], _, _ => rfl
  | a :: r, i, h => by
    rw [firstBad, if_pos (h a (by simp))]
    exact firstBad_of fun b hb => h b (by simp [hb])
theorem arc_ok {N : Nat} {a : Arc3} : arcBad (N : Int) a = 0 ↔ ArcOk N a := by
  unfold arcBad ArcOk
  constructor
  · intro h
    split at h
    · cases h
    · split at h
      · cases h
      · omega
  · rintro ⟨h1, h2, h3, h4, h5, h6⟩
    rw [if_neg (by omega), if_neg (by omega)]
theorem firstBad_ne {N : Int} : ∀ {xs : List Arc3} {i : Nat} {p : Nat × Int}, firstBad N xs i = some p → p.2 ≠ 0
  | [], _, _, h => by cases h
  | a :: r, i, p, h => by
    rw [firstBad] at h
    split at h
    · exact firstBad_ne h
    · rename_i h1
      injection h with h
      rw [← h]
      exact h1
theorem graph_iff {N : Int} {xs : List Arc3} : graphErr N xs = (0, []) ↔ ∃ n : Nat, N = (n : Int) ∧ GOk n xs := by
  constructor
  · intro h
    unfold graphErr at h
    split at h
    · cases h
    · rename_i h1
      obtain ⟨n, rfl⟩ : ∃ n : Nat, N = (n : Int) := ⟨N.toNat, by omega⟩
      refine ⟨n, rfl, by omega, by omega, fun a ha => ?_⟩
      split at h
      · rename_i h2
        exact arc_ok.1 (firstBad_none h2 a ha)
      · cases h
  · rintro ⟨n, rfl, h1, h2, h3⟩
    unfold graphErr
    rw [if_neg (by omega), firstBad_of fun a ha => arc_ok.2 (h3 a ha)]
/-- what is printed. -/
def prS (N : Int) (xs : List Arc3) : By := if graphErr N xs = (0, []) then prL N xs else []
def pfx (N : Int) (xs : List Arc3) (k : Nat) : By := txt ((gwd, [N, (xs.length : Int)]) :: (xs.take k).map (fun a => (awd, arcNs a)))
theorem pfx_zero (N : Int) (xs : List Arc3) : pfx N xs 0 = [] ++ rowL gwd [N, (xs.length : Int)] := by simp [pfx, txt]
theorem pfx_step {N : Int} {xs : List Arc3} {k : Nat} {a : Arc3} (h : xs[k]? = some a) : pfx N xs (k + 1) = pfx N xs k ++ rowL awd (arcNs a) := by
  unfold pfx
  rw [List.take_add_one, h, Option.toList, List.map_append, ← List.cons_append, txt_append]
  simp [txt]
theorem pfx_end (N : Int) (xs : List Arc3) : pfx N xs xs.length ++ rowL ewd [] = prL N xs := by
  unfold pfx prL prR
  rw [List.take_length, ← List.cons_append, txt_append]
  simp [txt]
theorem row_len {word : By} {ns : List Int} (h : ∀ n ∈ ns, intOk n) : (rowL word ns).length ≤ word.length + 22 * ns.length + 1 := by
  have := numL_any ns h
  unfold rowL
  simp only [List.length_append, List.length_cons, List.length_nil]
  omega
theorem head_int {n m : Nat} (h1 : n ≤ 65536) (h2 : m ≤ 262144) : ∀ i ∈ [(n : Int), (m : Int)], intOk i := by
  intro i hi
  simp at hi
  unfold intOk
  rcases hi with rfl | rfl <;> omega
theorem arc_int {N : Nat} {a : Arc3} (hN : N ≤ 65536) (h : ArcOk N a) : ∀ i ∈ arcNs a, intOk i := by
  obtain ⟨h1, h2, h3, h4, h5, h6⟩ := h
  intro i hi
  simp [arcNs] at hi
  unfold intOk
  rcases hi with rfl | rfl | rfl <;> omega
theorem pfx_len {n : Nat} {xs : List Arc3} (h : GOk n xs) : ∀ k, k ≤ xs.length → (pfx n xs k).length ≤ 50 + 70 * k
  | 0, _ => by
    have h1 : (rowL gwd [(n : Int), (xs.length : Int)]).length ≤ 5 + 22 * 2 + 1 := row_len (word := gwd) (head_int h.1 h.2.1)
    rw [pfx_zero, List.nil_append]
    omega
  | k + 1, hk => by
    have h1 := pfx_len h k (by omega)
    have ha : xs[k]? = some xs[k] := List.getElem?_eq_getElem (by omega)
    have h2 : (rowL awd (arcNs (xs[k]'(by omega)))).length ≤ 3 + 22 * 3 + 1 := row_len (word := awd) (arc_int h.1 (h.2.2 _ (List.getElem_mem (by omega : k < xs.length))))
    rw [pfx_step ha, List.length_append]
    omega
theorem Bld.here {w0 w : World} {B b : Nat} {L : By} (h : Bld w0 B b L w) : Bld w B b L w := ⟨h.blt, Below.refl _ _, OthersKept.refl _ _ _, h.bw⟩
theorem Bld.trans {w0 w w' : World} {B b : Nat} {L L' : By} (h : Bld w0 B b L w) (k : Bld w B b L' w') : Bld w0 B b L' w' := ⟨k.blt, h.bel.trans k.bel, h.oth.trans k.oth, k.bw⟩
theorem bld_new (w : World) : Bld (w.alloc (.cells #[.pointer none, .slice none 0 0] 62)) w.heap.size w.heap.size [] (w.alloc (.cells #[.pointer none, .slice none 0 0] 62)) :=
  ⟨Or.inl ⟨Nat.le_refl _, .slice none 0 0, heap_newG _ _, ⟨rfl, Or.inl ⟨rfl, rfl⟩⟩, by simp [Value.ownBlock]⟩, Below.refl _ _, OthersKept.refl _ _ _, by simp⟩
theorem bs_words : bs ⟨#[103, 114, 97, 112, 104]⟩ = gwd ∧ bs ⟨#[97, 114, 99]⟩ = awd ∧ bs ⟨#[101, 110, 100]⟩ = ewd := ⟨rfl, rfl, rfl⟩
def PrA (N : Int) (xs : List Arc3) (w : World) (e : Ending) (w' : World) : Prop := ∃ (s : ByteArray) (v : Value), e = .returned (.tuple #[.string s, v]) ∧ bs s = prS N xs ∧ IsTold w' (graphErr N xs) v ∧ Below w.heap.size w w'
theorem pr_res {W : World} {s v : Value} {tmps : Array Value} (t2 : tmps[2]?.getD undef = s) (t3 : tmps[3]?.getD undef = v) :
    (results Tryz.f6 tmps).run Tryz.prog W = .ok (.tuple #[s, v]) W := by
  simp [results, Tryz.results6, go_sem, t2, t3]
theorem bs_of (l : By) : bs ⟨l.toArray⟩ = l := rfl

set_option maxRecDepth 100000 in
set_option maxHeartbeats 8000000 in
theorem print_calls (N : Int) (ao : Option Addr) (cap : Nat) (xs : List Arc3) (w : World) (hl : HasArcs w (.slice ao xs.length cap) xs) (hm : xs.length ≤ maxLen) (hT : TabW w) :
    Calls Tryz.prog 6 #[.agg #[.int .i64 N, .slice ao xs.length cap]] w (PrA N xs w) := by
  obtain ⟨z, hz⟩ : ∃ z, w.heap.size = z := ⟨_, rfl⟩
  obtain ⟨W1, hW1⟩ : ∃ W1, w.alloc (.cells #[.int .i64 N, .slice ao xs.length cap] 24) = W1 := ⟨_, rfl⟩
  have HW1 : Hid (w.alloc (.cells #[.int .i64 N, .slice ao xs.length cap] 24) = W1) := hW1
  have n0 : W1.heap[z]? = some (.cells #[.int .i64 N, .slice ao xs.length cap] 24) := by rw [← hW1, ← hz]; exact heap_newG _ _
  have hb1 : Below w.heap.size w W1 := by rw [← hW1]; exact (Below.refl _ _).alloc (Nat.le_refl _) _
  have HZ : Hid (Below w.heap.size w W1 ∧ w.heap.size = z ∧ z < W1.heap.size ∧ W1.heap[z]? = some (.cells #[.int .i64 N, .slice ao xs.length cap] 24) ∧ TabW w ∧ HasArcs w (.slice ao xs.length cap) xs) := ⟨hb1, hz, (Array.getElem?_eq_some_iff.1 n0).1, n0, hT, hl⟩
  have HCK : Hid (Calls Tryz.prog 4 #[.agg #[.int .i64 N, .slice ao xs.length cap]] W1 fun e w' => ∃ v, e = .returned v ∧ IsTold w' (graphErr N xs) v ∧ Below W1.heap.size W1 w') := check_calls N ao cap xs W1 (hl.keep hb1) hm
  have c0 : W1.cell? ⟨z, 0, none⟩ = some (.int .i64 N) := by simp [World.cell?, n0]
  have c1 : W1.cell? ⟨z, 1, none⟩ = some (.slice ao xs.length cap) := by simp [World.cell?, n0]
  clear hW1 n0 hb1 hT hl
  go_enter Tryz.func6, Tryz.ntmps6
  go_upto_region 1 with fail
  rw [HW1.out]
  try rw [hz]
  go_wp2_with fail
  refine HCK.out.mono ?_
  rintro e y1 ⟨v, rfl, htd, hy1⟩
  have HY1 : Hid (Below W1.heap.size W1 y1 ∧ IsTold y1 (graphErr N xs) v) := ⟨hy1, htd⟩
  clear hy1 HCK c0 c1
  rcases told_shape htd with ⟨hE, rfl⟩ | ⟨hE, Tu, uu, rfl⟩
  · clear htd
    obtain ⟨n, rfl, hg⟩ := graph_iff.1 hE
    have HG : Hid (GOk n xs ∧ graphErr (n : Int) xs = (0, [])) := ⟨hg, hE⟩
    obtain ⟨b, hb⟩ : ∃ b, y1.heap.size = b := ⟨_, rfl⟩
    obtain ⟨W2, hW2⟩ : ∃ W2, y1.alloc (.cells #[.pointer none, .slice none 0 0] 62) = W2 := ⟨_, rfl⟩
    have HW2 : Hid (y1.alloc (.cells #[.pointer none, .slice none 0 0] 62) = W2) := hW2
    have HB2 : Hid (Bld W2 b b [] W2) := by rw [← hW2, ← hb]; exact bld_new y1
    have hb2 : Below y1.heap.size y1 W2 := by rw [← hW2]; exact (Below.refl _ _).alloc (Nat.le_refl _) _
    have HK : Hid (∀ wx, Below b W2 wx → wx.cell? ⟨z, 0, none⟩ = some (.int .i64 n) ∧ wx.cell? ⟨z, 1, none⟩ = some (.slice ao xs.length cap) ∧ TabW wx ∧ HasArcs wx (.slice ao xs.length cap) xs ∧ Below w.heap.size w wx) := fun wx hx => by
      have h3 := HZ.out.1
      have h4 := HY1.out.1
      have h5 : Below w.heap.size w y1 := h3.trans (h4.mono h3.size)
      have h6 : Below y1.heap.size y1 wx := hb2.trans (by rw [hb]; exact hx)
      have h7 : wx.heap[z]? = some (.cells #[.int .i64 n, .slice ao xs.length cap] 24) := (h6.block _ (Nat.lt_of_lt_of_le HZ.out.2.2.1 h4.size)).trans ((h4.block _ HZ.out.2.2.1).trans HZ.out.2.2.2.1)
      have h8 : Below w.heap.size w wx := h5.trans (h6.mono h5.size)
      exact ⟨by simp [World.cell?, h7], by simp [World.cell?, h7], HZ.out.2.2.2.2.1.keep h8 HZ.out.2.2.2.2.1.lt, HZ.out.2.2.2.2.2.keep h8, h8⟩
    have HTB : Hid (1 < b) := by
      have h1 := HZ.out.2.2.2.2.1.lt
      have h2 := HZ.out.1.size
      have h3 := HY1.out.1.size
      show _ < _
      omega
    have HML : Hid (xs.length ≤ 262144) := hg.2.1
    have hmm : xs.length ≤ 262144 := hg.2.1
    obtain ⟨c0, c1, _, _, _⟩ := HK.out W2 (Below.refl _ _)
    clear hW2 hb2 hE hg
    go_upto_region 5 with fail
    rw [HW2.out]
    try rw [hb]
    go_wp2_with fail
    refine (prow_calls b b [] ⟨#[103, 114, 97, 112, 104]⟩ (some ⟨W2.heap.size, 0, none⟩) 2 [(n : Int), (xs.length : Int)] _ (HB2.out.up ((Below.refl _ _).alloc (Nat.le_refl _) _)).here ((HK.out _ ((Below.refl _ _).alloc (by have := HB2.out.bw; omega) _)).2.2.1) HTB.out (Or.inr ⟨_, _, rfl, heap_newG _ _, ?_⟩) (head_int HG.out.1.1 HML.out) (by simp; decide)).mono ?_
    · intro i m hi
      rcases i with _ | _ | i
      · simp at hi; subst hi; rfl
      · simp at hi; subst hi; rfl
      · simp at hi
    rintro e y2 ⟨rfl, hy2⟩
    have HB3 : Hid (Bld W2 b b (pfx n xs 0) y2) := by
      show Bld _ _ _ _ _
      rw [pfx_zero]
      exact (HB2.out.up ((Below.refl _ _).alloc (Nat.le_refl _) _)).trans hy2
    obtain ⟨d0, d1, _, _, _⟩ := HK.out y2 HB3.out.bel
    clear hy2 c0 c1 HB2
    go_wp2_with fail
    go_loopw [26] (fun iv wr => ∃ k : Nat, k ≤ xs.length ∧ iv = .int .i64 k ∧ Hid (Bld W2 b b (pfx n xs k) wr)) (fun iv _ => xs.length - (intOf iv).toNat)
    case atStart => exact ⟨0, Nat.zero_le _, rfl, HB3⟩
    case round =>
      obtain ⟨k, hk, rfl, HI⟩ := hrel
      rcases Nat.lt_or_eq_of_le hk with h1 | h1
      · obtain ⟨a, ha⟩ : ∃ a, xs[k]? = some a := ⟨_, List.getElem?_eq_getElem h1⟩
        obtain ⟨e0, e1, _, hA, _⟩ := HK.out wr HI.out.bel
        obtain ⟨g, off, rfl, hgl, q0, q1, q2⟩ := hA.at ha
        have HX : Hid (xs[k]? = some a ∧ ArcOk n a) := ⟨ha, HG.out.1.2.2 a (List.mem_of_getElem? ha)⟩
        have i1 : decide ((k : Int) < (xs.length : Int)) = true := by simp; omega
        have i2 : (0 : Int) ≤ (k : Int) := by omega
        have i3 : (k : Int) < (xs.length : Int) := by omega
        obtain ⟨a0, a1, a2⟩ := a
        obtain ⟨W5, hW5⟩ : ∃ W5, wr.alloc (.cells #[.int .i64 a0, .int .i64 a1, .int .i64 a2] 50) = W5 := ⟨_, rfl⟩
        have HW5 : Hid (wr.alloc (.cells #[.int .i64 a0, .int .i64 a1, .int .i64 a2] 50) = W5) := hW5
        have m5 : W5.heap[wr.heap.size]? = some (.cells #[.int .i64 a0, .int .i64 a1, .int .i64 a2] 50) := by rw [← hW5]; exact heap_newG _ _
        have f0 : W5.cell? ⟨wr.heap.size, 0, none⟩ = some (.int .i64 a0) := by simp [World.cell?, m5]
        have f1 : W5.cell? ⟨wr.heap.size, 1, none⟩ = some (.int .i64 a1) := by simp [World.cell?, m5]
        have f2 : W5.cell? ⟨wr.heap.size, 2, none⟩ = some (.int .i64 a2) := by simp [World.cell?, m5]
        have HI5 : Hid (Bld W2 b b (pfx n xs k) W5) := by
          show Bld _ _ _ _ _
          rw [← hW5]
          exact HI.out.up ((Below.refl _ _).alloc (Nat.le_refl _) _)
        clear ha hA m5 hW5
        go_upto_region 10 with fail
        rw [HW5.out]
        go_wp2_with fail
        refine (prow_calls b b (pfx n xs k) ⟨#[97, 114, 99]⟩ (some ⟨W5.heap.size, 0, none⟩) 3 [a0, a1, a2] _ (HI5.out.up ((Below.refl _ _).alloc (Nat.le_refl _) _)).here ((HK.out _ (HI5.out.up ((Below.refl _ _).alloc (Nat.le_refl _) _)).bel).2.2.1) HTB.out (Or.inr ⟨_, _, rfl, heap_newG _ _, ?_⟩) (arc_int HG.out.1.1 HX.out.2) (by
          have h5 := pfx_len HG.out.1 k hk
          have h6 := HML.out
          show _ + 3 + 22 * 3 + 1 ≤ _
          omega)).mono ?_
        · intro i m hi
          rcases i with _ | _ | _ | i
          · simp at hi; subst hi; rfl
          · simp at hi; subst hi; rfl
          · simp at hi; subst hi; rfl
          · simp at hi
        rintro e y3 ⟨rfl, hy3⟩
        have HB5 : Hid (Bld W2 b b (pfx n xs (k + 1)) y3) := by
          show Bld _ _ _ _ _
          rw [pfx_step HX.out.1]
          exact (HI5.out.up ((Below.refl _ _).alloc (Nat.le_refl _) _)).trans hy3
        clear hy3
        go_wp2_with fail
        go_roundw
        case rel => exact ⟨k + 1, by omega, by rw [show (k : Int) + 1 = ((k + 1 : Nat) : Int) by omega], HB5⟩
        case measure => simp only [intOf]; omega
      · have i1 : decide ((k : Int) < (xs.length : Int)) = false := by simp; omega
        subst h1
        go_wp2_with fail
        refine (prow_calls b b (pfx n xs xs.length) ⟨#[101, 110, 100]⟩ none 0 [] _ HI.out.here ((HK.out _ HI.out.bel).2.2.1) HTB.out (Or.inl rfl) (by simp) (by
          have h5 := pfx_len HG.out.1 xs.length (Nat.le_refl _)
          have h6 := HML.out
          show _ + 3 + 22 * 0 + 1 ≤ _
          omega)).mono ?_
        rintro e y3 ⟨rfl, hy3⟩
        have HB5 : Hid (Bld W2 b b (prL n xs) y3) := by
          show Bld _ _ _ _ _
          rw [← pfx_end]
          exact HI.out.trans hy3
        have HST : Hid (Calls Tryz.prog 23 #[.pointer (some ⟨b, 0, none⟩)] y3 fun e w' => e = .returned (.string ⟨(prL n xs).toArray⟩) ∧ (IsBuilderF 62 5 b b (byteCells (prL n xs)) w' ∧ Below b y3 w' ∧ OthersKept 5 (some b) y3 w')) := Tryz.Builder_String_any_k b b (prL n xs) y3 HB5.out.blt HB5.out.bw
        clear hy3
        go_wp2_with fail
        refine HST.out.mono ?_
        rintro e y4 ⟨rfl, _, hy4, _⟩
        have HE : Hid (PrA n xs w (.returned (.tuple #[.string ⟨(prL n xs).toArray⟩, .nilIface])) y4) := by
          refine ⟨_, _, rfl, ?_, ?_, (HK.out y4 (HB5.out.bel.trans hy4)).2.2.2.2⟩
          · unfold prS
            rw [if_pos HG.out.2]
            rfl
          · rw [HG.out.2]
            exact Or.inl ⟨rfl, rfl⟩
        clear hy4 HST
        go_wp2
        refine bodyPost_ret (pr_res rfl rfl) rfl ?_
        exact HE.out
  · clear htd
    have HE : Hid (PrA N xs w (.returned (.tuple #[.string ⟨#[]⟩, .iface Tu uu])) y1) := by
      refine ⟨_, _, rfl, ?_, HY1.out.2, HZ.out.1.trans (HY1.out.1.mono HZ.out.1.size)⟩
      unfold prS
      rw [if_neg hE]
      rfl
    clear hE
    go_wp2
    refine bodyPost_ret (pr_res rfl rfl) rfl ?_
    exact HE.out
end Go.Proofs.YthgmhhlgjooeaaaGreatDoor.Gt
