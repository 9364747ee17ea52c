/- a climber in memory; rows.at, climber.reach. -/
import Derived.Test.YtepkogijignmlabCbA
import Derived.Test.YtepkogijignmlabCbM
import Derived.Test.YtepkogijignmlabStA
namespace Go.Proofs.Ytepkogijignmlab.Cb
open Go.RowKit Go.Extern Go.Shelf Hi

attribute [local go_sem] Oper.semAt_some

/-- where a climber lies. -/
structure CP where
  ci : Nat
  sb : Nat
  pb : Nat
  hb : Nat
  wb : Nat
structure CP.Apart (L : CP) : Prop where
  cs : L.ci ≠ L.sb
  cp : L.ci ≠ L.pb
  ch : L.ci ≠ L.hb
  cw : L.ci ≠ L.wb
  sh : L.sb ≠ L.hb
  sw : L.sb ≠ L.wb
  ph : L.pb ≠ L.hb
  pw : L.pb ≠ L.wb
/-- is k one of its blocks, or of its heap's row? -/
def CP.Own (L : CP) (sv : Value) (k : Nat) : Prop := k = L.ci ∨ k = L.sb ∨ k = L.pb ∨ k = L.hb ∨ k = L.wb ∨ sv.ownBlock = some k
structure Clm (B : Nat) (w : World) (n : Nat) (L : CP) (sv : Value) (vs : List (Option Int)) (f : Int → Option Int) : Prop where
  box : w.heap[L.ci]? = some (.cells #[.pointer (some ⟨L.sb, 0, none⟩), .pointer (some ⟨L.hb, 0, none⟩)] 105)
  st : St.IsStamp w L.sb L.pb n vs
  hp : Hp.IsHeap w L.hb L.wb n sv f
  ap : L.Apart
  nc : sv.ownBlock ≠ some L.ci
  ns : sv.ownBlock ≠ some L.sb
  np : sv.ownBlock ≠ some L.pb
  up : ∀ k, L.Own sv k → B ≤ k
/-- what calls on a climber leave alone. -/
structure Fx (L : CP) (sv sv' : Value) (w w' : World) : Prop where
  os : w'.os = w.os
  tape : w'.tape = w.tape
  output : w'.output = w.output
  size : w.heap.size ≤ w'.heap.size
  block : ∀ k, k < w.heap.size → ¬ L.Own sv k → w'.heap[k]? = w.heap[k]?
  own : ∀ k, k < w.heap.size → sv'.ownBlock = some k → sv.ownBlock = some k
theorem Fx.of_below {L : CP} {sv : Value} {w w' : World} (h : Below w.heap.size w w') : Fx L sv sv w w' := ⟨h.os, h.tape, h.output, h.size, fun k hk _ => h.block k hk, fun _ _ e => e⟩
theorem Fx.trans {L : CP} {sv sv' sv'' : Value} {w w' w'' : World} (h : Fx L sv sv' w w') (g : Fx L sv' sv'' w' w'') : Fx L sv sv'' w w'' :=
  ⟨g.os.trans h.os, g.tape.trans h.tape, g.output.trans h.output, Nat.le_trans h.size g.size, fun k hk hn => (g.block k (Nat.lt_of_lt_of_le hk h.size) (fun ho => hn (by
    rcases ho with o | o | o | o | o | o
    · exact Or.inl o
    · exact Or.inr (Or.inl o)
    · exact Or.inr (Or.inr (Or.inl o))
    · exact Or.inr (Or.inr (Or.inr (Or.inl o)))
    · exact Or.inr (Or.inr (Or.inr (Or.inr (Or.inl o))))
    · exact Or.inr (Or.inr (Or.inr (Or.inr (Or.inr (h.own k hk o)))))))).trans (h.block k hk hn), fun k hk e => h.own k hk (g.own k (Nat.lt_of_lt_of_le hk h.size) e)⟩
theorem Fx.below {B : Nat} {w w' : World} {n : Nat} {L : CP} {sv sv' : Value} {vs : List (Option Int)} {f : Int → Option Int} (h : Clm B w n L sv vs f) (g : Fx L sv sv' w w') (hB : B ≤ w.heap.size) : Below B w w' :=
  ⟨g.os, g.tape, g.output, g.size, fun k hk => g.block k (by omega) (fun ho => by have := h.up k ho; omega)⟩
variable {B : Nat} {w w' : World} {n : Nat} {L : CP} {sv sv' : Value} {vs vs' : List (Option Int)} {f f' : Int → Option Int}
theorem Clm.keep (h : Clm B w n L sv vs f) (hk : ∀ k, k < w.heap.size → L.Own sv k → w'.heap[k]? = w.heap[k]?) : Clm B w' n L sv vs f :=
  ⟨(hk _ (Hi.some_lt h.box) (Or.inl rfl)).trans h.box, h.st.keep fun k hk' e => hk k hk' (by rcases e with e | e <;> simp [CP.Own, e]), h.hp.keep fun k hk' e => hk k hk' (by rcases e with e | e | e <;> simp [CP.Own, e]), h.ap, h.nc, h.ns, h.np, h.up⟩
theorem Clm.below (h : Clm B w n L sv vs f) (hb : Below w.heap.size w w') : Clm B w' n L sv vs f := h.keep fun k hk _ => hb.block k hk
theorem Clm.stamped (h : Clm B w n L sv vs f) (hs : St.IsStamp w' L.sb L.pb n vs') (hf : St.Fr L.sb L.pb w w') : Clm B w' n L sv vs' f ∧ Fx L sv sv w w' := by
  have keep : ∀ k, k < w.heap.size → k ≠ L.sb → k ≠ L.pb → w'.heap[k]? = w.heap[k]? := hf.block
  refine ⟨⟨(keep _ (Hi.some_lt h.box) h.ap.cs h.ap.cp).trans h.box, hs, h.hp.keep fun k hk' e => keep k hk' ?_ ?_, h.ap, h.nc, h.ns, h.np, h.up⟩, hf.os, hf.tape, hf.output, hf.size, fun k hk hn => keep k hk (fun e => hn (Or.inr (Or.inl e))) (fun e => hn (Or.inr (Or.inr (Or.inl e)))), fun _ _ e => e⟩
  · rintro rfl
    rcases e with e | e | e
    · exact h.ap.sh e
    · exact h.ap.sw e
    · exact h.ns e
  · rintro rfl
    rcases e with e | e | e
    · exact h.ap.ph e
    · exact h.ap.pw e
    · exact h.np e
theorem Clm.heaped (h : Clm B w n L sv vs f) (hs : Hp.IsHeap w' L.hb L.wb n sv' f') (hf : Hp.Fr L.hb L.wb sv sv' w w') (hB : B ≤ w.heap.size) : Clm B w' n L sv' vs f' ∧ Fx L sv sv' w w' := by
  have hci := Hi.some_lt h.box
  obtain ⟨ls, lp, _⟩ := h.st.lt
  have keep : ∀ k, k < w.heap.size → k ≠ L.hb → k ≠ L.wb → sv.ownBlock ≠ some k → w'.heap[k]? = w.heap[k]? := fun k hk h1 h2 h3 => hf.block k hk h1 h2 (fun e => h3 e.symm)
  refine ⟨⟨(keep _ hci h.ap.ch h.ap.cw h.nc).trans h.box, h.st.keep fun k hk' e => ?_, hs, h.ap, fun e => h.nc (hf.own _ hci e), fun e => h.ns (hf.own _ ls e), fun e => h.np (hf.own _ lp e), fun k ho => ?_⟩, hf.os, hf.tape, hf.output, hf.size, fun k hk hn => keep k hk (fun e => hn (Or.inr (Or.inr (Or.inr (Or.inl e))))) (fun e => hn (Or.inr (Or.inr (Or.inr (Or.inr (Or.inl e)))))) (fun e => hn (Or.inr (Or.inr (Or.inr (Or.inr (Or.inr e)))))), hf.own⟩
  · rcases e with rfl | rfl
    · exact keep _ hk' h.ap.sh h.ap.sw h.ns
    · exact keep _ hk' h.ap.ph h.ap.pw h.np
  · rcases ho with o | o | o | o | o | o
    · exact h.up k (Or.inl o)
    · exact h.up k (Or.inr (Or.inl o))
    · exact h.up k (Or.inr (Or.inr (Or.inl o)))
    · exact h.up k (Or.inr (Or.inr (Or.inr (Or.inl o))))
    · exact h.up k (Or.inr (Or.inr (Or.inr (Or.inr (Or.inl o)))))
    · rcases Nat.lt_or_ge k w.heap.size with hk | hk
      · exact h.up k (Or.inr (Or.inr (Or.inr (Or.inr (Or.inr (hf.own k hk o))))))
      · omega
theorem Clm.cells (h : Clm B w n L sv vs f) : w.cell? ⟨L.ci, 0, none⟩ = some (.pointer (some ⟨L.sb, 0, none⟩)) ∧ w.cell? ⟨L.ci, 1, none⟩ = some (.pointer (some ⟨L.hb, 0, none⟩)) := by
  simp [World.cell?, h.box]
/-- a rank from r on that gets a length waits. -/
theorem waits_set {vs : List (Option Int)} {r x : Nat} {d : Int} (hx : x < vs.length) (hr : r ≤ x) : Hp.upd (waits vs r) x (some (x : Int)) = waits (vs.set x (some d)) r := by
  funext z
  unfold Hp.upd waits
  by_cases e : z = (x : Int)
  · subst e
    rw [if_pos rfl, Int.toNat_natCast, List.getElem?_set_self hx]
    simp
    omega
  · rw [if_neg e]
    by_cases hz : 0 ≤ z
    · rw [List.getElem?_set_ne (by omega)]
    · have g : ¬ (r : Int) ≤ z := by omega
      rcases h1 : vs[z.toNat]? with _ | _ | _ <;> rcases h2 : (vs.set x (some d))[z.toNat]? with _ | _ | _ <;> simp [g]
theorem waits_or {vs : List (Option Int)} {r x : Nat} : waits vs r (x : Int) = none ∨ waits vs r (x : Int) = some (x : Int) := by
  cases h : waits vs r (x : Int) with
  | none => exact Or.inl rfl
  | some k => exact Or.inr (by rw [(waits_some h).1])

set_option maxRecDepth 100000 in
set_option maxHeartbeats 4000000 in
theorem reach_calls (r x : Nat) (d : Int) (hx : x < n) (hr : r ≤ x) (h : Clm B w n L sv vs (waits vs r)) (hB : B ≤ w.heap.size) :
    Calls Try.prog 41 #[.pointer (some ⟨L.ci, 0, none⟩), .int .u32 (x : Int), .int .u64 d] w fun e w' => e = .returned (.tuple #[]) ∧ ∃ sv', Clm B w' n L sv' (relax vs x d) (waits (relax vs x d) r) ∧ Fx L sv sv' w w' := by
  have hlen : vs.length = n := h.st.lt.2.2.2.1
  have hn : n ≤ 65536 := h.st.lt.2.2.2.2
  obtain ⟨o, ho⟩ : ∃ o, vs[x]? = some o := ⟨vs[x]'(by omega), List.getElem?_eq_getElem (by omega)⟩
  have HG : Hid (Calls Try.prog 43 #[.pointer (some ⟨L.sb, 0, none⟩), .int .i64 (x : Int)] w fun e w' => e = .returned (St.gotV o) ∧ Below w.heap.size w w') := St.get_in h.st x o ho
  have HC : Hid (Clm B w n L sv vs (waits vs r)) := h
  have x1 : IntKind.i64.wrap (x : Int) = (x : Int) := by rw [IntKind.wrap_i64]; omega
  have x2 : IntKind.u64.wrap (x : Int) = (x : Int) := by rw [IntKind.wrap_u64]; omega
  have HR : Hid (∀ wx, Clm B wx n L sv vs (waits vs r) → B ≤ wx.heap.size → Calls Try.prog 45 #[.pointer (some ⟨L.sb, 0, none⟩), .int .i64 (x : Int), .int .u64 d] wx fun e w' => e = .returned .nilIface ∧ Clm B w' n L sv (vs.set x (some d)) (waits vs r) ∧ Fx L sv sv wx w') := fun wx hx' hB' => (St.set_calls hx'.st x hx d).mono (by
    rintro e w' ⟨rfl, a, b⟩
    obtain ⟨p, q⟩ := hx'.stamped a b
    exact ⟨rfl, p, q⟩)
  have HP : Hid (∀ wx, Clm B wx n L sv (vs.set x (some d)) (waits vs r) → B ≤ wx.heap.size → Calls Try.prog 46 #[.pointer (some ⟨L.hb, 0, none⟩), .int .u32 (x : Int), .int .u64 (x : Int)] wx fun e w' => e = .returned .nilIface ∧ ∃ sv', Clm B w' n L sv' (vs.set x (some d)) (waits (vs.set x (some d)) r) ∧ Fx L sv sv' wx w') := fun wx hx' hB' => (Hp.push_own hx'.hp x hx waits_or).mono (by
    rintro e w' ⟨rfl, sv', a, b⟩
    rw [waits_set (d := d) (by omega) hr] at a
    obtain ⟨p, q⟩ := hx'.heaped a b hB'
    exact ⟨rfl, sv', p, q⟩)
  have HB : Hid (B ≤ w.heap.size) := hB
  obtain ⟨c0, c1⟩ := h.cells
  clear h hB
  by_cases hbet : relax vs x d = vs.set x (some d) ∧ (o = none ∨ ∃ k, o = some k ∧ d < k)
  · obtain ⟨e1, e2⟩ := hbet
    have HE : Hid (relax vs x d = vs.set x (some d)) := e1
    clear e1
    have hgot : ∃ (kv : Int) (bb : Bool), St.gotV o = .tuple #[.int .u64 kv, .bool bb] ∧ (bb = false ∨ (bb = true ∧ d < kv)) := by
      rcases e2 with rfl | ⟨k, rfl, hk⟩
      · exact ⟨0, false, rfl, Or.inl rfl⟩
      · exact ⟨k, true, rfl, Or.inr ⟨rfl, hk⟩⟩
    obtain ⟨kv, bb, hgv, hcase⟩ := hgot
    rw [hgv] at HG
    clear e2 hgv ho
    go_enter Try.func41, Try.ntmps41
    go_wp2_with fail
    refine HG.out.mono ?_
    rintro e w1 ⟨rfl, hb1⟩
    have HC1 : Hid (Clm B w1 n L sv vs (waits vs r)) := HC.out.below hb1
    have HB1 : Hid (B ≤ w1.heap.size ∧ Fx L sv sv w w1) := ⟨Nat.le_trans HB.out hb1.size, Fx.of_below hb1⟩
    clear hb1 c0 c1
    obtain ⟨c0, c1⟩ := HC1.out.cells
    have tail : ∀ (_ : True), True := fun _ => trivial
    rcases hcase with rfl | ⟨rfl, hlt⟩
    all_goals
      go_wp2_with fail
      refine (HR.out w1 HC1.out HB1.out.1).mono ?_
      rintro e w2 ⟨rfl, hC2, hF2⟩
      have HC2 : Hid (Clm B w2 n L sv (vs.set x (some d)) (waits vs r)) := hC2
      have HB2 : Hid (B ≤ w2.heap.size ∧ Fx L sv sv w w2) := ⟨Nat.le_trans HB1.out.1 hF2.size, HB1.out.2.trans hF2⟩
      clear hC2 hF2 c0 c1
      obtain ⟨c0, c1⟩ := HC2.out.cells
      go_wp2_with fail
      refine (HP.out w2 HC2.out HB2.out.1).mono ?_
      rintro e w3 ⟨rfl, sv', hC3, hF3⟩
      have HC3 : Hid (Clm B w3 n L sv' (vs.set x (some d)) (waits (vs.set x (some d)) r) ∧ Fx L sv sv' w w3) := ⟨hC3, HB2.out.2.trans hF3⟩
      clear hC3 hF3 c0 c1
      go_wp2
      exact bodyPost_end (v := .tuple #[]) (by simp [results, Try.results41]) rfl ⟨rfl, sv', by rw [HE.out]; exact HC3.out.1, HC3.out.2⟩
  · have hno : ∃ k, o = some k ∧ ¬ d < k ∧ relax vs x d = vs := by
      unfold relax at hbet ⊢
      rw [ho] at hbet ⊢
      cases o with
      | none => simp at hbet
      | some k =>
        by_cases hk : d < k
        · simp [hk] at hbet
        · exact ⟨k, rfl, hk, by simp [hk]⟩
    obtain ⟨k, rfl, hk, e1⟩ := hno
    have HE : Hid (relax vs x d = vs) := e1
    have HG' : Hid (Calls Try.prog 43 #[.pointer (some ⟨L.sb, 0, none⟩), .int .i64 (x : Int)] w fun e w' => e = .returned (.tuple #[.int .u64 k, .bool true]) ∧ Below w.heap.size w w') := HG
    clear hbet e1 ho HG
    go_enter Try.func41, Try.ntmps41
    go_wp2_with fail
    refine HG'.out.mono ?_
    rintro e w1 ⟨rfl, hb1⟩
    have HC1 : Hid (Clm B w1 n L sv vs (waits vs r) ∧ Fx L sv sv w w1) := ⟨HC.out.below hb1, Fx.of_below hb1⟩
    clear hb1 c0 c1
    go_wp2
    exact bodyPost_end (v := .tuple #[]) (by simp [results, Try.results41]) rfl ⟨rfl, sv, by rw [HE.out]; exact HC1.out.1, HC1.out.2⟩
end Go.Proofs.Ytepkogijignmlab.Cb
