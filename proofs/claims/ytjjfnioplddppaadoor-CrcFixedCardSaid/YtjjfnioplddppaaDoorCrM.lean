/- check sums: mathematics. The turn of a word is linear; a burst of at most 32 bits never turns to nothing; a product by a power of x is so many turns. -/
import Derived.Test.YtjjfnioplddppaaDoorProg
namespace Go.Proofs.YtjjfnioplddppaaDoor.Cr
/-- the polynomial of the sums, its bits turned about. -/
def P32 : Nat := 3988292384
/-- the turn of a word, of any width. -/
def T (c : Nat) : Nat := (c >>> 1) ^^^ (if c % 2 = 1 then P32 else 0)
def Tn : Nat → Nat → Nat
  | 0, c => c
  | k + 1, c => Tn k (T c)
theorem xor_parity (a b : Nat) : (a ^^^ b) % 2 = (a % 2 + b % 2) % 2 := by
  have h : ∀ n : Nat, n % 2 = if n.testBit 0 then 1 else 0 := fun n => by
    rw [Nat.testBit_zero]
    rcases Nat.mod_two_eq_zero_or_one n with h | h <;> simp [h]
  rw [h (a ^^^ b), h a, h b, Nat.testBit_xor]
  cases a.testBit 0 <;> cases b.testBit 0 <;> rfl
theorem xor_swap (a b c d : Nat) : (a ^^^ b) ^^^ (c ^^^ d) = (a ^^^ c) ^^^ (b ^^^ d) := by
  rw [Nat.xor_assoc, Nat.xor_assoc, ← Nat.xor_assoc b, Nat.xor_comm b c, Nat.xor_assoc]
theorem T_zero : T 0 = 0 := rfl
theorem T_xor (a b : Nat) : T (a ^^^ b) = T a ^^^ T b := by
  unfold T
  rw [Nat.shiftRight_xor_distrib, xor_parity, xor_swap (a >>> 1)]
  congr 1
  rcases Nat.mod_two_eq_zero_or_one a with h | h <;> rcases Nat.mod_two_eq_zero_or_one b with h' | h' <;> simp [h, h']
theorem Tn_xor (k : Nat) : ∀ a b : Nat, Tn k (a ^^^ b) = Tn k a ^^^ Tn k b := by
  induction k with
  | zero => intro a b; rfl
  | succ k ih => intro a b; show Tn k (T _) = _; rw [T_xor, ih]; rfl
theorem Tn_zero (k : Nat) : Tn k 0 = 0 := by
  induction k with
  | zero => rfl
  | succ k ih => exact ih
theorem Tn_add (j : Nat) : ∀ (k c : Nat), Tn (j + k) c = Tn k (Tn j c) := by
  induction j with
  | zero => intro k c; rw [Nat.zero_add]; rfl
  | succ j ih => intro k c; rw [Nat.succ_add]; exact ih k (T c)
theorem Tn_one (c : Nat) : Tn 1 c = T c := rfl
theorem Tn_succ (k c : Nat) : Tn (k + 1) c = T (Tn k c) := by rw [Tn_add]; rfl
theorem T_lt {c : Nat} (h : c < 2 ^ 32) : T c < 2 ^ 32 := by
  unfold T
  apply Nat.xor_lt_two_pow
  · rw [Nat.shiftRight_eq_div_pow]; omega
  · split
    · decide
    · decide
theorem Tn_lt (k : Nat) : ∀ {c : Nat}, c < 2 ^ 32 → Tn k c < 2 ^ 32 := by
  induction k with
  | zero => intro c h; exact h
  | succ k ih => intro c h; exact ih (T_lt h)
theorem T_double (c : Nat) : T (2 * c) = c := by
  unfold T
  rw [if_neg (by omega), Nat.xor_zero, Nat.shiftRight_eq_div_pow]; omega
theorem Tn_shift (k : Nat) : ∀ c : Nat, Tn k (2 ^ k * c) = c := by
  induction k with
  | zero => intro c; show 2 ^ 0 * c = c; omega
  | succ k ih =>
    intro c
    show Tn k (T _) = _
    rw [Nat.pow_succ, Nat.mul_comm (2 ^ k) 2, Nat.mul_assoc, T_double, ih]
/-- a word that is not 0 never turns to 0. -/
theorem T_ne {c : Nat} (h : c < 2 ^ 32) (h0 : T c = 0) : c = 0 := by
  unfold T at h0
  rw [Nat.shiftRight_eq_div_pow] at h0
  split at h0
  · exfalso
    have h1 := congrArg (fun n => n.testBit 31) h0
    simp only [Nat.testBit_xor, Nat.zero_testBit] at h1
    have e1 : (c / 2 ^ 1).testBit 31 = false := Nat.testBit_lt_two_pow (by omega)
    have e2 : P32.testBit 31 = true := by decide
    rw [e1, e2] at h1
    exact absurd h1 (by decide)
  · rw [Nat.xor_zero] at h0
    omega
theorem Tn_ne (k : Nat) : ∀ {c : Nat}, c < 2 ^ 32 → Tn k c = 0 → c = 0 := by
  induction k with
  | zero => intro c _ h; exact h
  | succ k ih => intro c h h0; exact T_ne h (ih (T_lt h) h0)
theorem xor_eq_zero {a b : Nat} (h : a ^^^ b = 0) : a = b := by
  have : (a ^^^ b) ^^^ b = b := by rw [h, Nat.zero_xor]
  rwa [Nat.xor_assoc, Nat.xor_self, Nat.xor_zero] at this
theorem xor_left {a b c : Nat} (h : a ^^^ b = a ^^^ c) : b = c := by
  have h2 : a ^^^ (a ^^^ b) = a ^^^ (a ^^^ c) := by rw [h]
  rwa [← Nat.xor_assoc, ← Nat.xor_assoc, Nat.xor_self, Nat.zero_xor, Nat.zero_xor] at h2
theorem Tn_inj {k a b : Nat} (ha : a < 2 ^ 32) (hb : b < 2 ^ 32) (h : Tn k a = Tn k b) : a = b := by
  apply xor_eq_zero
  apply Tn_ne k (Nat.xor_lt_two_pow ha hb)
  rw [Tn_xor, h, Nat.xor_self]
/-- a number is its lower bits and its higher ones. -/
theorem xor_split (k x y : Nat) (h : x < 2 ^ k) : x ^^^ (2 ^ k * y) = x + 2 ^ k * y := by
  rw [Nat.add_comm, Nat.two_pow_add_eq_or_of_lt h]
  apply Nat.eq_of_testBit_eq
  intro i
  rw [Nat.testBit_xor, Nat.testBit_or, Nat.testBit_two_pow_mul]
  by_cases hi : k ≤ i
  · rw [Nat.testBit_lt_two_pow (Nat.lt_of_lt_of_le h (Nat.pow_le_pow_right (by omega) hi))]; simp
  · simp [hi]
/-- what four turns make of words below 16. -/
def F4 : List Nat := [0, 498536548, 997073096, 651767980, 1994146192, 1802195444, 1303535960, 1342533948, 3988292384, 4027552580, 3604390888, 3412177804, 2607071920, 2262029012, 2685067896, 3183342108]
theorem F4_is : ∀ i : Fin 16, Tn 4 i.val = F4.getD i.val 0 := by decide
theorem four_is (x : Nat) : Tn 4 x = (x / 16) ^^^ F4.getD (x % 16) 0 := by
  have e : x = (x % 16) ^^^ (2 ^ 4 * (x / 16)) := by rw [xor_split 4 _ _ (by omega)]; omega
  have h := F4_is ⟨x % 16, by omega⟩
  rw [← h]
  conv => lhs; rw [e]
  rw [Tn_xor, Tn_shift, Nat.xor_comm]
/-- eight turns, by halves of a byte. -/
theorem eight_is (x : Nat) : Tn 8 x = Tn 4 (Tn 4 x) := Tn_add 4 4 x

/-- the register of bytes. -/
def reg : Nat → List Nat → Nat
  | x, [] => x
  | x, v :: p => reg (Tn 8 (x ^^^ v)) p
/-- bytes as a number, the lowest first. -/
def num : List Nat → Nat
  | [] => 0
  | v :: p => v + 256 * num p
theorem reg_cons (x v : Nat) (p : List Nat) : reg x (v :: p) = reg (Tn 8 (x ^^^ v)) p := rfl
theorem num_cons (v : Nat) (p : List Nat) : num (v :: p) = v + 256 * num p := rfl
theorem Tn_nought (c : Nat) : Tn 0 c = c := rfl
def Bts (p : List Nat) : Prop := ∀ v ∈ p, v < 256
theorem Bts.cons {v : Nat} {p : List Nat} (h : Bts (v :: p)) : v < 256 ∧ Bts p := ⟨h v (by simp), fun x hx => h x (by simp [hx])⟩
theorem Bts.app {p q : List Nat} (hp : Bts p) (hq : Bts q) : Bts (p ++ q) := fun v hv => by
  rcases List.mem_append.1 hv with h | h
  · exact hp v h
  · exact hq v h
theorem Bts.take {p : List Nat} (h : Bts p) (n : Nat) : Bts (p.take n) := fun v hv => h v (List.mem_of_mem_take hv)
theorem Bts.drop {p : List Nat} (h : Bts p) (n : Nat) : Bts (p.drop n) := fun v hv => h v (List.mem_of_mem_drop hv)
theorem reg_append : ∀ (p q : List Nat) (x : Nat), reg x (p ++ q) = reg (reg x p) q
  | [], _, _ => rfl
  | _ :: p, q, _ => reg_append p q _
theorem reg_lt : ∀ {p : List Nat} {x : Nat}, Bts p → x < 2 ^ 32 → reg x p < 2 ^ 32
  | [], _, _, h => h
  | v :: p, x, hp, h => reg_lt (p := p) hp.cons.2 (Tn_lt 8 (Nat.xor_lt_two_pow h (by have := hp.cons.1; omega)))
theorem reg_num {p : List Nat} (x : Nat) (h : Bts p) : reg x p = Tn (8 * p.length) (x ^^^ num p) := by
  induction p generalizing x with
  | nil =>
    show x = Tn 0 (x ^^^ 0)
    rw [Nat.xor_zero, Tn_nought]
  | cons v p ih =>
    obtain ⟨hv, hp⟩ := h.cons
    rw [reg_cons, num_cons, ih _ hp, List.length_cons, Nat.mul_add, Nat.add_comm (8 * p.length), Nat.mul_one, Tn_add, show 256 = 2 ^ 8 from rfl, ← xor_split 8 v _ hv, ← Nat.xor_assoc, Tn_xor 8 (x ^^^ v), Tn_shift]
theorem num_lt : ∀ {p : List Nat}, Bts p → num p < 2 ^ (8 * p.length)
  | [], _ => by decide
  | v :: p, h => by
    obtain ⟨hv, hp⟩ := h.cons
    have := num_lt hp
    show v + 256 * num p < 2 ^ (8 * (p.length + 1))
    rw [Nat.mul_add, Nat.pow_add, Nat.mul_comm]
    omega
/-- all bits turned over. -/
def M32 : Nat := 4294967295
def upd (c : Nat) (p : List Nat) : Nat := M32 ^^^ reg (M32 ^^^ c) p
theorem xx (a b : Nat) : a ^^^ (a ^^^ b) = b := by rw [← Nat.xor_assoc, Nat.xor_self, Nat.zero_xor]
theorem upd_append (c : Nat) (p q : List Nat) : upd (upd c p) q = upd c (p ++ q) := by
  unfold upd
  rw [xx, reg_append]
theorem m_lt {c : Nat} (h : c < 2 ^ 32) : M32 ^^^ c < 2 ^ 32 := Nat.xor_lt_two_pow (by decide) h
theorem upd_lt {c : Nat} {p : List Nat} (h : c < 2 ^ 32) (hp : Bts p) : upd c p < 2 ^ 32 := m_lt (reg_lt hp (m_lt h))
def joinN (a b n : Nat) : Nat := Tn (8 * n) a ^^^ b
theorem join_sum (p q : List Nat) (hq : Bts q) : joinN (upd 0 p) (upd 0 q) q.length = upd 0 (p ++ q) := by
  unfold joinN upd
  rw [reg_append, Nat.xor_zero, reg_num M32 hq, reg_num (reg M32 p) hq, Nat.xor_comm M32 (Tn _ _), ← Nat.xor_assoc, ← Tn_xor, xor_swap, Nat.xor_self, Nat.zero_xor, Nat.xor_comm]
theorem join_join (a b n m : Nat) : joinN (joinN a 0 n) b m = joinN a b (n + m) := by
  unfold joinN
  rw [Nat.xor_zero, ← Tn_add, Nat.mul_add]
/-- the last four bytes tell the sum of those ahead. -/
def fits (p : List Nat) : Bool := decide (4 ≤ p.length ∧ num (p.drop (p.length - 4)) = upd 0 (p.take (p.length - 4)))
theorem fits_reg {p : List Nat} (hp : Bts p) (h : fits p = true) : reg M32 p = Tn 32 M32 := by
  obtain ⟨h4, he⟩ := of_decide_eq_true h
  have hd := hp.drop (p.length - 4)
  have hl : (p.drop (p.length - 4)).length = 4 := by rw [List.length_drop]; omega
  have e : reg M32 (p.take (p.length - 4) ++ p.drop (p.length - 4)) = Tn 32 M32 := by
    rw [reg_append, reg_num _ hd, hl, he]
    unfold upd
    rw [Nat.xor_zero, Nat.xor_comm M32, xx]
  rwa [List.take_append_drop] at e
theorem num_app : ∀ (p q : List Nat), num (p ++ q) = num p + 2 ^ (8 * p.length) * num q
  | [], q => by show num q = 0 + 2 ^ 0 * num q; omega
  | v :: p, q => by
    show v + 256 * num (p ++ q) = v + 256 * num p + 2 ^ (8 * (p.length + 1)) * num q
    rw [num_app p q, Nat.mul_add 8, Nat.pow_add, Nat.mul_add, Nat.add_assoc, Nat.mul_right_comm]
    omega
/-- A burst is seen. -/
theorem burst_seen {p q : List Nat} {m at_ : Nat} (hp : Bts p) (hq : Bts q) (hl : q.length = p.length) (hm : m < 2 ^ 32) (ha : at_ < 8 * p.length)
    (hn : num q = num p ^^^ (2 ^ at_ * m)) (h0 : m ≠ 0) (h1 : fits p = true) : fits q = false := by
  cases hf : fits q with
  | false => rfl
  | true =>
    exfalso
    have e1 := fits_reg hp h1
    have e2 := fits_reg hq hf
    rw [reg_num _ hq, hn, hl, ← Nat.xor_assoc, Tn_xor, ← reg_num _ hp, e1] at e2
    have e3 : Tn (8 * p.length) (2 ^ at_ * m) = 0 := xor_left (a := Tn 32 M32) (by rw [e2, Nat.xor_zero])
    rw [show 8 * p.length = at_ + (8 * p.length - at_) by omega, Tn_add, Tn_shift] at e3
    exact h0 (Tn_ne _ hm e3)
/-- a bit turned over. -/
theorem num_flip : ∀ {p : List Nat} {k j : Nat}, k < p.length → Bts p → num (p.set k (p.getD k 0 ^^^ 2 ^ j)) = num p ^^^ 2 ^ (8 * k + j) ∨ 8 ≤ j
  | [], k, j, h, _ => by simp at h
  | v :: p, 0, j, _, hp => by
    by_cases hj : j < 8
    · left
      show (v ^^^ 2 ^ j) + 2 ^ 8 * num p = (v + 2 ^ 8 * num p) ^^^ 2 ^ (8 * 0 + j)
      have hv := hp.cons.1
      have h8 : 2 ^ j < 2 ^ 8 := Nat.pow_lt_pow_right (by omega) hj
      rw [← xor_split 8 _ _ (Nat.xor_lt_two_pow hv h8), ← xor_split 8 _ _ hv, Nat.mul_zero, Nat.zero_add, Nat.xor_assoc, Nat.xor_assoc, Nat.xor_comm (2 ^ j)]
    · right; omega
  | v :: p, k + 1, j, h, hp => by
    rcases num_flip (p := p) (k := k) (j := j) (by simpa using h) hp.cons.2 with e | e
    · left
      show v + 2 ^ 8 * num (p.set k (p.getD k 0 ^^^ 2 ^ j)) = (v + 2 ^ 8 * num p) ^^^ 2 ^ (8 * (k + 1) + j)
      have hv := hp.cons.1
      have e8 : 2 ^ (8 * (k + 1) + j) = 2 ^ 8 * 2 ^ (8 * k + j) := by rw [← Nat.pow_add]; congr 1; omega
      have ed : ∀ a b : Nat, 2 ^ 8 * (a ^^^ b) = (2 ^ 8 * a) ^^^ (2 ^ 8 * b) := fun a b => by
        rw [Nat.mul_comm, Nat.mul_comm _ a, Nat.mul_comm _ b, ← Nat.shiftLeft_eq, ← Nat.shiftLeft_eq, ← Nat.shiftLeft_eq, Nat.shiftLeft_xor_distrib]
      rw [e, e8, ed, ← xor_split 8 v (num p) hv, Nat.xor_assoc, ← ed, xor_split 8 v _ hv]
    · right; exact e
/-- the product of two words. -/
def timesN : Nat → Nat → Nat → Nat
  | 0, _, _ => 0
  | k + 1, a, b => (if 2147483648 ≤ a then b else 0) ^^^ timesN k (a * 2 % 4294967296) (T b)
theorem timesN_zero (k : Nat) : ∀ b, timesN k 0 b = 0 := by
  induction k with
  | zero => intro b; rfl
  | succ k ih => intro b; show (if 2147483648 ≤ 0 then b else 0) ^^^ timesN k (0 * 2 % 4294967296) (T b) = 0; rw [if_neg (by omega), Nat.zero_mul, Nat.zero_mod, ih, Nat.xor_zero]
theorem timesN_T (k : Nat) : ∀ a b, timesN k a (T b) = T (timesN k a b) := by
  induction k with
  | zero => intro a b; exact T_zero.symm
  | succ k ih =>
    intro a b
    show (if 2147483648 ≤ a then T b else 0) ^^^ timesN k _ (T (T b)) = T ((if 2147483648 ≤ a then b else 0) ^^^ timesN k _ (T b))
    rw [T_xor, ih]
    split <;> rfl
theorem timesN_Tn (j : Nat) : ∀ k a b, timesN k a (Tn j b) = Tn j (timesN k a b) := by
  induction j with
  | zero => intro k a b; rw [Tn_nought, Tn_nought]
  | succ j ih => intro k a b; show timesN k a (Tn j (T b)) = Tn j (T (timesN k a b)); rw [ih, timesN_T]
theorem timesN_one : ∀ (k i a : Nat), k + i = 32 → a < 2 ^ 32 → a % 2 ^ i = 0 → timesN k a (2 ^ (31 - i)) = a / 2 ^ i
  | 0, i, a, hk, ha, hm => by
    obtain rfl : i = 32 := by omega
    show 0 = a / 2 ^ 32
    omega
  | k + 1, i, a, hk, ha, hm => by
    show (if 2147483648 ≤ a then 2 ^ (31 - i) else 0) ^^^ timesN k (a * 2 % 4294967296) (T (2 ^ (31 - i))) = a / 2 ^ i
    by_cases hi : i = 31
    · obtain rfl : k = 0 := by omega
      subst hi
      show (if 2147483648 ≤ a then 2 ^ 0 else 0) ^^^ 0 = a / 2 ^ 31
      rw [Nat.xor_zero]
      split <;> omega
    · have hT : T (2 ^ (31 - i)) = 2 ^ (31 - (i + 1)) := by
        rw [show 31 - i = (31 - (i + 1)) + 1 by omega, Nat.pow_succ, Nat.mul_comm, T_double]
      have hp : 2 ^ i * 2 ^ (31 - i) = 2147483648 := by rw [← Nat.pow_add, show i + (31 - i) = 31 by omega]
      have hpos : 0 < 2 ^ i := Nat.pow_pos (by omega)
      rw [hT]
      split
      · rename_i h
        obtain ⟨c, rfl⟩ : ∃ c, a = 2147483648 + c := ⟨a - 2147483648, by omega⟩
        have hc : c < 2147483648 := by omega
        have e2 : (2147483648 + c) * 2 % 4294967296 = c * 2 := by omega
        have hcm : c % 2 ^ i = 0 := by rw [← hp, Nat.mul_add_mod] at hm; exact hm
        rw [e2, timesN_one k (i + 1) (c * 2) (by omega) (by omega) (by rw [Nat.pow_succ, Nat.mul_mod_mul_right, hcm, Nat.zero_mul]), Nat.pow_succ, Nat.mul_div_mul_right _ _ (by omega)]
        have hq : c / 2 ^ i < 2 ^ (31 - i) := by rw [Nat.div_lt_iff_lt_mul hpos, Nat.mul_comm, hp]; exact hc
        rw [Nat.xor_comm]
        have := xor_split (31 - i) (c / 2 ^ i) 1 hq
        rw [Nat.mul_one] at this
        rw [this, ← hp, Nat.mul_add_div hpos, Nat.add_comm]
      · rename_i h
        have e2 : a * 2 % 4294967296 = a * 2 := by omega
        rw [Nat.zero_xor, e2, timesN_one k (i + 1) (a * 2) (by omega) (by omega) (by rw [Nat.pow_succ, Nat.mul_mod_mul_right, hm, Nat.zero_mul]), Nat.pow_succ, Nat.mul_div_mul_right _ _ (by omega)]
/-- to multiply by a power of x is to turn. -/
theorem times_turn {a j : Nat} (ha : a < 2 ^ 32) : timesN 32 a (Tn j 2147483648) = Tn j a := by
  rw [timesN_Tn]
  have := timesN_one 32 0 a (by omega) ha (by omega)
  rw [show (2147483648 : Nat) = 2 ^ (31 - 0) by decide, this]
  congr 1
  omega
/-- how many doublings until nothing is left. -/
def cz : Nat → Nat → Nat
  | 0, _ => 0
  | k + 1, a => (if a = 0 then 0 else 1) + cz k (a * 2 % 4294967296)
theorem dbl_pow (a k : Nat) : a * 2 % 4294967296 * 2 ^ k % 4294967296 = a * 2 ^ (k + 1) % 4294967296 := by
  rw [Nat.mul_mod, Nat.mod_mod, ← Nat.mul_mod, Nat.pow_succ, Nat.mul_assoc, Nat.mul_comm 2]
theorem cz_last (k : Nat) : ∀ a, a < 4294967296 → cz (k + 1) a = cz k a + (if a * 2 ^ k % 4294967296 = 0 then 0 else 1) := by
  induction k with
  | zero => intro a ha; show (if a = 0 then 0 else 1) + 0 = 0 + _; rw [Nat.pow_zero, Nat.mul_one, Nat.mod_eq_of_lt ha]; omega
  | succ k ih =>
    intro a ha
    show (if a = 0 then 0 else 1) + cz (k + 1) (a * 2 % 4294967296) = ((if a = 0 then 0 else 1) + cz k (a * 2 % 4294967296)) + _
    rw [ih _ (Nat.mod_lt _ (by omega)), dbl_pow]
    omega
theorem cz_less {a : Nat} (ha : a < 4294967296) (h0 : a ≠ 0) : cz 32 (a * 2 % 4294967296) < cz 32 a := by
  have h : cz 33 a = cz 32 a + (if a * 2 ^ 32 % 4294967296 = 0 then 0 else 1) := cz_last 32 a ha
  have e : a * 2 ^ 32 % 4294967296 = 0 := by rw [show (2 : Nat) ^ 32 = 4294967296 by decide]; exact Nat.mul_mod_left _ _
  rw [e, if_pos rfl] at h
  have h2 : cz 33 a = (if a = 0 then 0 else 1) + cz 32 (a * 2 % 4294967296) := rfl
  rw [if_neg h0] at h2
  omega
theorem times_last (k : Nat) : ∀ a b, a < 4294967296 → timesN (k + 1) a b = timesN k a b ^^^ (if 2147483648 ≤ a * 2 ^ k % 4294967296 then Tn k b else 0) := by
  induction k with
  | zero => intro a b ha; show (if 2147483648 ≤ a then b else 0) ^^^ 0 = 0 ^^^ _; rw [Nat.pow_zero, Nat.mul_one, Nat.mod_eq_of_lt ha, Nat.xor_zero, Nat.zero_xor]; rfl
  | succ k ih =>
    intro a b ha
    show (if 2147483648 ≤ a then b else 0) ^^^ timesN (k + 1) (a * 2 % 4294967296) (T b) = ((if 2147483648 ≤ a then b else 0) ^^^ timesN k (a * 2 % 4294967296) (T b)) ^^^ _
    rw [ih _ _ (Nat.mod_lt _ (by omega)), dbl_pow, ← Nat.xor_assoc]
    rfl
theorem times_step {a : Nat} (ha : a < 4294967296) (b : Nat) : timesN 32 a b = (if 2147483648 ≤ a then b else 0) ^^^ timesN 32 (a * 2 % 4294967296) (T b) := by
  have h := times_last 32 a b ha
  have e : a * 2 ^ 32 % 4294967296 = 0 := by rw [show (2 : Nat) ^ 32 = 4294967296 by decide]; exact Nat.mul_mod_left _ _
  rw [e, if_neg (by omega), Nat.xor_zero] at h
  exact h.symm
theorem times_lt (k : Nat) : ∀ {a b : Nat}, b < 4294967296 → timesN k a b < 4294967296 := by
  induction k with
  | zero => intro a b _; show 0 < _; omega
  | succ k ih =>
    intro a b hb
    have := ih (a := a * 2 % 4294967296) (T_lt hb)
    refine Nat.xor_lt_two_pow (n := 32) ?_ this
    split
    · exact hb
    · omega
theorem toEight : Tn 8 2147483648 = 8388608 := by decide
end Go.Proofs.YtjjfnioplddppaaDoor.Cr
