/- What a witness search knows, and what the bounded search of the document knows: alike, step by step. -/
import Derived.Test.YtcfpkbmeblfhoaaWtM
namespace Go.Proofs.Ytcfpkbmeblfhoaa.Wt

/-- the search's labels and queue tell what the document's search knows. -/
structure Rel (n : Nat) (S : FS) (L : Int → Option (Int × Int)) (Q : List Th) : Prop where
  lv : S.vs.length = n
  lab : ∀ (v : Nat) (d : Int), S.vs[v]? = some (some d) → L (v : Int) = some (d, S.hs v)
  non : ∀ (v : Nat), S.vs[v]? = some none → L (v : Int) = none
  inn : ∀ e ∈ Q, ∃ (v : Nat) (d : Int), e.2 = (v : Int) ∧ S.vs[v]? = some (some d) ∧ d ≤ e.1
  opn : ∀ (v : Nat) (k : Int), v < n → S.f (v : Int) = some k → (k, (v : Int)) ∈ Q
  fix : ∀ (v : Nat) (d : Int), S.vs[v]? = some (some d) → S.f (v : Int) = none → (d, (v : Int)) ∉ Q
  nod : Q.Nodup
theorem upd_at (f : Int → Option Int) (x u : Nat) (o : Option Int) : upd f (x : Int) o (u : Int) = if u = x then o else f (u : Int) := by
  unfold upd
  by_cases e : u = x
  · rw [if_pos (by omega), if_pos e]
  · rw [if_neg (by omega), if_neg e]
section
variable {n : Nat} {S : FS} {L : Int → Option (Int × Int)} {Q Q' : List Th}
theorem Rel.lt (h : Rel n S L Q) {v : Nat} {o : Option Int} (hv : S.vs[v]? = some o) : v < n := by rw [← h.lv]; exact (List.getElem?_eq_some_iff.1 hv).1
theorem Rel.perm (h : Rel n S L Q) (hp : Q.Perm Q') : Rel n S L Q' := ⟨h.lv, h.lab, h.non, fun e he => h.inn e (hp.mem_iff.2 he), fun v k hv hf => hp.mem_iff.1 (h.opn v k hv hf), fun v d hv hf hm => h.fix v d hv hf (hp.mem_iff.2 hm), hp.nodup_iff.1 h.nod⟩
/-- nobody is open where the queue is empty. -/
theorem Rel.none (h : Rel n S L []) : ∀ d : Nat, d < n → S.f (d : Int) = .none := fun d hd => by
  cases hf : S.f (d : Int) with
  | none => rfl
  | some k => exact absurd (h.opn d k hd hf) (by simp)
/-- what comes out of the queue: its label. -/
theorem Rel.head (h : Rel n S L Q) {t : Th} (hp : Q.Perm (t :: Q')) : ∃ (v : Nat) (d : Int), t.2 = (v : Int) ∧ v < n ∧ S.vs[v]? = some (some d) ∧ d ≤ t.1 ∧ L (v : Int) = some (d, S.hs v) := by
  obtain ⟨v, d, h1, h2, h3⟩ := h.inn t (hp.mem_iff.2 (by simp))
  exact ⟨v, d, h1, h.lt h2, h2, h3, h.lab v d h2⟩
/-- an entry that counts no more. -/
theorem Rel.stale (h : Rel n S L Q) (ho : ∀ (v : Nat) (k : Int), v < n → S.f (v : Int) = some k → S.vs[v]? = some (some k)) {t : Th} (hp : Q.Perm (t :: Q')) {v : Nat} {d : Int} (ht : t.2 = (v : Int)) (hv : S.vs[v]? = some (some d)) (hd : t.1 ≠ d) : Rel n S L Q' := by
  have hn := hp.nodup_iff.1 h.nod
  refine ⟨h.lv, h.lab, h.non, fun e he => h.inn e (hp.mem_iff.2 (List.mem_cons_of_mem _ he)), fun u k hu hf => ?_, fun u e hu hf hm => h.fix u e hu hf (hp.mem_iff.2 (List.mem_cons_of_mem _ hm)), (List.nodup_cons.1 hn).2⟩
  rcases List.mem_cons.1 (hp.mem_iff.1 (h.opn u k hu hf)) with e | e
  · have e1 : t.1 = k := by rw [← e]
    have e2 : t.2 = (u : Int) := by rw [← e]
    have e3 : u = v := by omega
    subst e3
    have := ho u k hu hf
    rw [hv] at this
    cases this
    exact absurd e1 hd
  · exact e
/-- an entry that counts is the least one; behind it its node is settled. -/
theorem Rel.take (h : Rel n S L Q) (ho : ∀ (v : Nat) (k : Int), v < n → S.f (v : Int) = some k → S.vs[v]? = some (some k)) {t : Th} (hp : Q.Perm (t :: Q')) (hm : ∀ x ∈ Q, ¬ ltT x t) {v : Nat} (ht : t.2 = (v : Int)) (hv : S.vs[v]? = some (some t.1)) : Least n S.f v t.1 ∧ Rel n (S.pop v) L Q' := by
  have hn := hp.nodup_iff.1 h.nod
  have hvn := h.lt hv
  have htm : (t.1, (v : Int)) ∈ Q := by
    have : (t.1, (v : Int)) = t := by rw [← ht]
    rw [this]
    exact hp.mem_iff.2 (by simp)
  have hf : S.f (v : Int) = some t.1 := by
    cases hf : S.f (v : Int) with
    | none => exact absurd htm (h.fix v t.1 hv hf)
    | some k =>
      have := ho v k hvn hf
      rw [hv] at this
      cases this
      rfl
  refine ⟨⟨hvn, hf, fun e j he hj => ?_⟩, h.lv, h.lab, h.non, fun e he => h.inn e (hp.mem_iff.2 (List.mem_cons_of_mem _ he)), fun u k hu hg => ?_, fun u e hu hg hmm => ?_, (List.nodup_cons.1 hn).2⟩
  · have h1 := hm _ (h.opn e j he hj)
    have e2 : t = (t.1, (v : Int)) := by rw [← ht]
    rw [e2] at h1
    exact h1
  · have hg' : upd S.f (v : Int) .none (u : Int) = some k := hg
    rw [upd_at] at hg'
    split at hg'
    · cases hg'
    · rename_i hne
      rcases List.mem_cons.1 (hp.mem_iff.1 (h.opn u k hu hg')) with e | e
      · have e2 : t.2 = (u : Int) := by rw [← e]
        omega
      · exact e
  · have hg' : upd S.f (v : Int) .none (u : Int) = .none := hg
    rw [upd_at] at hg'
    split at hg'
    · rename_i e2
      subst e2
      have hu' : S.vs[u]? = some (some e) := hu
      rw [hv] at hu'
      cases hu'
      have : (t.1, (u : Int)) = t := by rw [← ht]
      rw [this] at hmm
      exact (List.nodup_cons.1 hn).1 hmm
    · exact h.fix u e hu hg' (hp.mem_iff.2 (List.mem_cons_of_mem _ hmm))
/-- a label is laid. -/
theorem Rel.laid (h : Rel n S L Q) {x : Nat} (hx : x < n) {d hp v : Int} (hb : S.better x d = true) (hq : Q'.Perm ((d, (x : Int)) :: Q)) : Rel n (S.lab x d hp v) (updL L (x : Int) (d, hp)) Q' := by
  have hxl : x < S.vs.length := by rw [h.lv]; exact hx
  have hvs : ∀ u, (S.vs.set x (some d))[u]? = if u = x then some (some d) else S.vs[u]? := fun u => by
    rw [List.getElem?_set]
    by_cases e : x = u
    · rw [if_pos e, if_pos e.symm, if_pos (by omega)]
    · rw [if_neg e, if_neg (fun e2 => e e2.symm)]
  have hless : ∀ d0, S.vs[x]? = some (some d0) → d < d0 := fun d0 h0 => by
    unfold FS.better at hb
    rw [h0] at hb
    simpa using hb
  have hnew : (d, (x : Int)) ∉ Q := fun hm => by
    obtain ⟨v2, d2, e1, e2, e3⟩ := h.inn _ hm
    have e4 : v2 = x := by simp at e1; omega
    subst e4
    have := hless d2 e2
    simp at e3
    omega
  refine Rel.perm ?_ hq.symm
  refine ⟨by show (S.vs.set x (some d)).length = n; rw [List.length_set]; exact h.lv, fun u e hu => ?_, fun u hu => ?_, fun e he => ?_, fun u k hu hf => ?_, fun u e hu hf hm => ?_, List.nodup_cons.2 ⟨hnew, h.nod⟩⟩
  · have hu' : (S.vs.set x (some d))[u]? = some (some e) := hu
    rw [hvs] at hu'
    show updL L (x : Int) (d, hp) (u : Int) = some (e, if u = x then hp else S.hs u)
    unfold updL
    split at hu'
    · rename_i e2
      rw [if_pos (by omega), if_pos e2]
      cases hu'
      rfl
    · rename_i e2
      rw [if_neg (by omega), if_neg e2]
      exact h.lab u e hu'
  · have hu' : (S.vs.set x (some d))[u]? = some .none := hu
    rw [hvs] at hu'
    show updL L (x : Int) (d, hp) (u : Int) = .none
    unfold updL
    split at hu'
    · cases hu'
    · rename_i e2
      rw [if_neg (by omega)]
      exact h.non u hu'
  · rcases List.mem_cons.1 he with rfl | he
    · exact ⟨x, d, rfl, by show (S.vs.set x (some d))[x]? = _; rw [hvs, if_pos rfl], Int.le_refl _⟩
    · obtain ⟨v2, d2, e1, e2, e3⟩ := h.inn e he
      by_cases e4 : v2 = x
      · subst e4
        have := hless d2 e2
        exact ⟨v2, d, e1, by show (S.vs.set v2 (some d))[v2]? = _; rw [hvs, if_pos rfl], by omega⟩
      · exact ⟨v2, d2, e1, by show (S.vs.set x (some d))[v2]? = _; rw [hvs, if_neg e4]; exact e2, e3⟩
  · have hf' : upd S.f (x : Int) (some d) (u : Int) = some k := hf
    rw [upd_at] at hf'
    split at hf'
    · rename_i e
      subst e
      cases hf'
      exact List.mem_cons_self
    · exact List.mem_cons_of_mem _ (h.opn u k hu hf')
  · have hf' : upd S.f (x : Int) (some d) (u : Int) = .none := hf
    rw [upd_at] at hf'
    split at hf'
    · cases hf'
    · rename_i e2
      have hu' : (S.vs.set x (some d))[u]? = some (some e) := hu
      rw [hvs, if_neg e2] at hu'
      rcases List.mem_cons.1 hm with e3 | e3
      · have : (u : Int) = (x : Int) := by rw [Prod.mk.injEq] at e3; exact e3.2
        omega
      · exact h.fix u e hu' hf' e3
/-- the program asks the same. -/
theorem Rel.asks (h : Rel n S L Q) {x : Nat} (hx : x < n) (d : Int) : S.better x d = (!(L (x : Int)).isSome || decide (d < ((L (x : Int)).getD (0, 0)).1)) := by
  obtain ⟨o, ho⟩ : ∃ o, S.vs[x]? = some o := ⟨S.vs[x]'(by rw [h.lv]; exact hx), List.getElem?_eq_getElem _⟩
  unfold FS.better
  rw [ho]
  cases o with
  | none => rw [h.non x ho]; rfl
  | some e => rw [h.lab x e ho]; rfl
/-- the beginning. -/
theorem Rel.begin (n : Nat) (S0 : FS) {s : Nat} (hs : s < n) : Rel n (S0.begin n s) (updL (fun _ => .none) (s : Int) (0, 0)) [(0, (s : Int))] := by
  have h0 : Rel n (⟨List.replicate n .none, S0.hs, S0.ah, fun _ => .none⟩ : FS) (fun _ => .none) [] :=
    ⟨by simp, (fun v d hv => by simp [List.getElem?_replicate] at hv), (fun _ _ => rfl), (fun e he => by cases he), (fun v k _ hf => by cases hf), (fun v d _ _ hm => by cases hm), List.nodup_nil⟩
  exact h0.laid hs (by
    unfold FS.better
    simp [hs]) (List.Perm.refl _)
end
/-- what is settled stays, with its label. -/
theorem relax1_keep {v : Nat} {k h : Int} {S : FS} {a : Int × Int × Int} {u : Nat} {d : Int} (hlow : d ≤ k) (hr : 0 ≤ a.2.2) (h1 : S.vs[u]? = some (some d)) (h2 : S.f (u : Int) = none) : (relax1 v k h S a).vs[u]? = some (some d) ∧ (relax1 v k h S a).f (u : Int) = none := by
  unfold relax1
  split
  · rename_i hb
    obtain ⟨x, hx⟩ : ∃ x, a.2.1.toNat = x := ⟨_, rfl⟩
    rw [hx] at hb ⊢
    have hne : u ≠ x := fun e => by
      subst e
      unfold FS.better at hb
      rw [h1] at hb
      simp at hb
      omega
    refine ⟨by show (S.vs.set x _)[u]? = _; rw [List.getElem?_set, if_neg (Ne.symm hne)]; exact h1, by show upd S.f (x : Int) _ (u : Int) = none; rw [upd_at, if_neg hne]; exact h2⟩
  · exact ⟨h1, h2⟩
theorem fold_keep {v : Nat} {k h : Int} {u : Nat} {d : Int} (hlow : d ≤ k) : ∀ (l : List (Int × Int × Int)) (S : FS), (∀ a ∈ l, 0 ≤ a.2.2) → S.vs[u]? = some (some d) → S.f (u : Int) = none → (l.foldl (relax1 v k h) S).vs[u]? = some (some d) ∧ (l.foldl (relax1 v k h) S).f (u : Int) = none
  | [], S, _, h1, h2 => ⟨h1, h2⟩
  | a :: l, S, hl, h1, h2 => by
    obtain ⟨g1, g2⟩ := relax1_keep (v := v) (h := h) hlow (hl a (by simp)) h1 h2
    exact fold_keep hlow l _ (fun b hb => hl b (by simp [hb])) g1 g2
theorem step_keep {n : Nat} {zs : List (Int × Int × Int)} {hb : Int} {s t : Nat} {S : FS} (hz : Fine n zs) (hI : SInv n zs hb s t S) {v : Nat} {k : Int} (hL : Least n S.f v k) {u : Nat} {d : Int} (h1 : S.vs[u]? = some (some d)) (h2 : S.f (u : Int) = none) : (S.step zs hb v k).vs[u]? = some (some d) ∧ (S.step zs hb v k).f (u : Int) = none := by
  have hlow : d ≤ k := hI.mono u d v k h1 h2 hL.1 hL.2.1
  have p2 : (S.pop v).f (u : Int) = none := by
    show upd S.f (v : Int) none (u : Int) = none
    rw [upd_at]
    split
    · rfl
    · exact h2
  unfold FS.step
  split
  · exact fold_keep hlow _ _ (fun a ha => by have := hz.ends a ((hz.arcRow_mem v a).1 ha).1; omega) h1 p2
  · exact ⟨h1, p2⟩
theorem step_fixes {n : Nat} {zs : List (Int × Int × Int)} {hb : Int} {s t : Nat} {S : FS} (hz : Fine n zs) (hI : SInv n zs hb s t S) {v : Nat} {k : Int} (hL : Least n S.f v k) : (S.step zs hb v k).vs[v]? = some (some k) ∧ (S.step zs hb v k).f (v : Int) = none := by
  have h1 := hI.opn v k hL.1 hL.2.1
  have p2 : (S.pop v).f (v : Int) = none := by
    show upd S.f (v : Int) none (v : Int) = none
    rw [upd_at, if_pos rfl]
  unfold FS.step
  split
  · exact fold_keep (Int.le_refl _) _ _ (fun a ha => by have := hz.ends a ((hz.arcRow_mem v a).1 ha).1; omega) h1 p2
  · exact ⟨h1, p2⟩
theorem steps_keep {n : Nat} {zs : List (Int × Int × Int)} {hb mo : Int} {s : Nat} {S0 : FS} (hz : Fine n zs) (h0 : SInv n zs hb s 0 S0) : ∀ (m t : Nat) (S1 S : FS), Steps n zs hb mo S0 t S1 → Steps n zs hb mo S0 (t + m) S → ∀ (u : Nat) (d : Int), S1.vs[u]? = some (some d) → S1.f (u : Int) = none → S.vs[u]? = some (some d) ∧ S.f (u : Int) = none
  | 0, t, S1, S, h1, h2, u, d, g1, g2 => by
    obtain rfl := steps_det t S1 S h1 h2
    exact ⟨g1, g2⟩
  | m + 1, t, S1, S, h1, h2, u, d, g1, g2 => by
    have h2' : Steps n zs hb mo S0 (t + m + 1) S := h2
    obtain ⟨S2, v, k, q1, q2, _, rfl⟩ := h2'
    obtain ⟨p1, p2⟩ := steps_keep hz h0 m t S1 S2 h1 q1 u d g1 g2
    exact step_keep hz (steps_inv hz h0 _ S2 q1) q2 p1 p2
/-- a search that stopped early, all its goals being settled, and the search that goes on to its end: the goals' labels are the same. -/
theorem early {n : Nat} {zs : List (Int × Int × Int)} {hb se mo : Int} {s : Nat} {S0 : FS} (hz : Fine n zs) (h0 : SInv n zs hb s 0 S0) {t t' : Nat} {S S' : FS} (h : Steps n zs hb mo S0 t S) (hse : t = 0 ∨ (t : Int) ≤ se) (h' : Steps n zs hb mo S0 t' S') (e' : RunEnd n se mo t' S') {u : Nat} {d : Int} (g1 : S.vs[u]? = some (some d)) (g2 : S.f (u : Int) = none) : S'.vs[u]? = some (some d) := by
  rcases Nat.lt_or_ge t' t with hlt | hge
  · exfalso
    obtain ⟨m, rfl⟩ : ∃ m, t = t' + m + 1 := ⟨t - t' - 1, by omega⟩
    obtain ⟨S1, v, k, q1, q2, q3⟩ := steps_prefix m t' S h
    obtain rfl := steps_det t' S' S1 h' q1
    rcases e' with ⟨q, _⟩ | ⟨q, _⟩ | ⟨v2, k2, r1, r2, _⟩
    · rcases hse with hse | hse
      · omega
      · omega
    · have := q v q2.1
      rw [q2.2.1] at this
      cases this
    · obtain ⟨_, rfl⟩ := least_unique q2 r1
      omega
  · obtain ⟨m, rfl⟩ : ∃ m, t' = t + m := ⟨t' - t, by omega⟩
    exact (steps_keep hz h0 m t S S' h h' u d g1 g2).1
end Go.Proofs.Ytcfpkbmeblfhoaa.Wt
