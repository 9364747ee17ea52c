/- check sums: mathematics. The turn of a word is linear; a burst of at most 32 bits never turns to nothing; a product by a power of x is so many turns. check sums: the turn of a word, by both texts; eight turns; the product. check sums: Update and Join, by both texts. bytes in memory: rows of one's own; the reference's copy (Twin), its comparison of two lists that are one (Same). check sums: Seal, by both texts. check sums: Fits, by both texts. rows of bytes that are written into: one byte. check sums: the law's own sanity (awake); new bytes in memory. rows of bytes that are written into: room that is made, what is copied, what is cut. -/
import Derived.Test.YtamedcnjanichabGreatDoorProg
import Derived.WalkKit
import Derived.WalkSpells
import Derived.WalkLawsBesides
import Derived.OwnWalk
import Derived.Laws.BitsAll
import Derived.Deep.AppendLies
import Derived.Deep.OwnRows
import Derived.Laws.AppendOwnNone
import Derived.Laws.BytesString
import Derived.Laws.Cells
import Derived.Deep.RegionHeld3
import Derived.Deep.RegionWith
import Derived.Deep.QuietTactic
import Derived.BigQuiet
import Derived.Deep.Upon
import Derived.Lib.SlBytesConst
import Derived.Laws.CopyOwn
import Derived.Laws.MakeOwn
import Derived.Deep.DeepAppendRoom
namespace Go.Proofs.YtamedcnjanichabGreatDoor.Cr
/-- the polynomial of the sums, its bits turned about. -/
def P32 : Nat := 3988292384
/-- the turn of a word, of any width. -/
def T (c : Nat) : Nat := (c >>> 1) ^^^ (if c % 2 = 1 then P32 else 0)
def Tn : Nat → Nat → Nat
  | 0, c => c
  | k + 1, c => Tn k (T c)
theorem xor_parity (a b : Nat) : (a ^^^ b) % 2 = (a % 2 + b % 2) % 2 := by
  have h : ∀ n : Nat, n % 2 = if n.testBit 0 then 1 else 0 := fun n => by
    rw [Nat.testBit_zero]
    rcases Nat.mod_two_eq_zero_or_one n with h | h <;> simp [h]
  rw [h (a ^^^ b), h a, h b, Nat.testBit_xor]
  cases a.testBit 0 <;> cases b.testBit 0 <;> rfl
theorem xor_swap (a b c d : Nat) : (a ^^^ b) ^^^ (c ^^^ d) = (a ^^^ c) ^^^ (b ^^^ d) := by
  rw [Nat.xor_assoc, Nat.xor_assoc, ← Nat.xor_assoc b, Nat.xor_comm b c, Nat.xor_assoc]
theorem T_zero : T 0 = 0 := rfl
theorem T_xor (a b : Nat) : T (a ^^^ b) = T a ^^^ T b := by
  unfold T
  rw [Nat.shiftRight_xor_distrib, xor_parity, xor_swap (a >>> 1)]
  congr 1
  rcases Nat.mod_two_eq_zero_or_one a with h | h <;> rcases Nat.mod_two_eq_zero_or_one b with h' | h' <;> simp [h, h']
theorem Tn_xor (k : Nat) : ∀ a b : Nat, Tn k (a ^^^ b) = Tn k a ^^^ Tn k b := by
  induction k with
  | zero => intro a b; rfl
  | succ k ih => intro a b; show Tn k (T _) = _; rw [T_xor, ih]; rfl
theorem Tn_zero (k : Nat) : Tn k 0 = 0 := by
  induction k with
  | zero => rfl
  | succ k ih => exact ih
theorem Tn_add (j : Nat) : ∀ (k c : Nat), Tn (j + k) c = Tn k (Tn j c) := by
  induction j with
  | zero => intro k c; rw [Nat.zero_add]; rfl
  | succ j ih => intro k c; rw [Nat.succ_add]; exact ih k (T c)
theorem Tn_one (c : Nat) : Tn 1 c = T c := rfl
theorem Tn_succ (k c : Nat) : Tn (k + 1) c = T (Tn k c) := by rw [Tn_add]; rfl
theorem T_lt {c : Nat} (h : c < 2 ^ 32) : T c < 2 ^ 32 := by
  unfold T
  apply Nat.xor_lt_two_pow
  · rw [Nat.shiftRight_eq_div_pow]; omega
  · split
    · decide
    · decide
theorem Tn_lt (k : Nat) : ∀ {c : Nat}, c < 2 ^ 32 → Tn k c < 2 ^ 32 := by
  induction k with
  | zero => intro c h; exact h
  | succ k ih => intro c h; exact ih (T_lt h)
theorem T_double (c : Nat) : T (2 * c) = c := by
  unfold T
  rw [if_neg (by omega), Nat.xor_zero, Nat.shiftRight_eq_div_pow]; omega
theorem Tn_shift (k : Nat) : ∀ c : Nat, Tn k (2 ^ k * c) = c := by
  induction k with
  | zero => intro c; show 2 ^ 0 * c = c; omega
  | succ k ih =>
    intro c
    show Tn k (T _) = _
    rw [Nat.pow_succ, Nat.mul_comm (2 ^ k) 2, Nat.mul_assoc, T_double, ih]
/-- a word that is not 0 never turns to 0. -/
theorem T_ne {c : Nat} (h : c < 2 ^ 32) (h0 : T c = 0) : c = 0 := by
  unfold T at h0
  rw [Nat.shiftRight_eq_div_pow] at h0
  split at h0
  · exfalso
    have h1 := congrArg (fun n => n.testBit 31) h0
    simp only [Nat.testBit_xor, Nat.zero_testBit] at h1
    have e1 : (c / 2 ^ 1).testBit 31 = false := Nat.testBit_lt_two_pow (by omega)
    have e2 : P32.testBit 31 = true := by decide
    rw [e1, e2] at h1
    exact absurd h1 (by decide)
  · rw [Nat.xor_zero] at h0
    omega
theorem Tn_ne (k : Nat) : ∀ {c : Nat}, c < 2 ^ 32 → Tn k c = 0 → c = 0 := by
  induction k with
  | zero => intro c _ h; exact h
  | succ k ih => intro c h h0; exact T_ne h (ih (T_lt h) h0)
theorem xor_eq_zero {a b : Nat} (h : a ^^^ b = 0) : a = b := by
  have : (a ^^^ b) ^^^ b = b := by rw [h, Nat.zero_xor]
  rwa [Nat.xor_assoc, Nat.xor_self, Nat.xor_zero] at this
theorem xor_left {a b c : Nat} (h : a ^^^ b = a ^^^ c) : b = c := by
  have h2 : a ^^^ (a ^^^ b) = a ^^^ (a ^^^ c) := by rw [h]
  rwa [← Nat.xor_assoc, ← Nat.xor_assoc, Nat.xor_self, Nat.zero_xor, Nat.zero_xor] at h2
theorem Tn_inj {k a b : Nat} (ha : a < 2 ^ 32) (hb : b < 2 ^ 32) (h : Tn k a = Tn k b) : a = b := by
  apply xor_eq_zero
  apply Tn_ne k (Nat.xor_lt_two_pow ha hb)
  rw [Tn_xor, h, Nat.xor_self]
/-- a number is its lower bits and its higher ones. -/
theorem xor_split (k x y : Nat) (h : x < 2 ^ k) : x ^^^ (2 ^ k * y) = x + 2 ^ k * y := by
  rw [Nat.add_comm, Nat.two_pow_add_eq_or_of_lt h]
  apply Nat.eq_of_testBit_eq
  intro i
  rw [Nat.testBit_xor, Nat.testBit_or, Nat.testBit_two_pow_mul]
  by_cases hi : k ≤ i
  · rw [Nat.testBit_lt_two_pow (Nat.lt_of_lt_of_le h (Nat.pow_le_pow_right (by omega) hi))]; simp
  · simp [hi]
/-- what four turns make of words below 16. -/
def F4 : List Nat := [0, 498536548, 997073096, 651767980, 1994146192, 1802195444, 1303535960, 1342533948, 3988292384, 4027552580, 3604390888, 3412177804, 2607071920, 2262029012, 2685067896, 3183342108]
theorem F4_is : ∀ i : Fin 16, Tn 4 i.val = F4.getD i.val 0 := by decide
theorem four_is (x : Nat) : Tn 4 x = (x / 16) ^^^ F4.getD (x % 16) 0 := by
  have e : x = (x % 16) ^^^ (2 ^ 4 * (x / 16)) := by rw [xor_split 4 _ _ (by omega)]; omega
  have h := F4_is ⟨x % 16, by omega⟩
  rw [← h]
  conv => lhs; rw [e]
  rw [Tn_xor, Tn_shift, Nat.xor_comm]
/-- eight turns, by halves of a byte. -/
theorem eight_is (x : Nat) : Tn 8 x = Tn 4 (Tn 4 x) := Tn_add 4 4 x

/-- the register of bytes. -/
def reg : Nat → List Nat → Nat
  | x, [] => x
  | x, v :: p => reg (Tn 8 (x ^^^ v)) p
/-- bytes as a number, the lowest first. -/
def num : List Nat → Nat
  | [] => 0
  | v :: p => v + 256 * num p
theorem reg_cons (x v : Nat) (p : List Nat) : reg x (v :: p) = reg (Tn 8 (x ^^^ v)) p := rfl
theorem num_cons (v : Nat) (p : List Nat) : num (v :: p) = v + 256 * num p := rfl
theorem Tn_nought (c : Nat) : Tn 0 c = c := rfl
def Bts (p : List Nat) : Prop := ∀ v ∈ p, v < 256
theorem Bts.cons {v : Nat} {p : List Nat} (h : Bts (v :: p)) : v < 256 ∧ Bts p := ⟨h v (by simp), fun x hx => h x (by simp [hx])⟩
theorem Bts.app {p q : List Nat} (hp : Bts p) (hq : Bts q) : Bts (p ++ q) := fun v hv => by
  rcases List.mem_append.1 hv with h | h
  · exact hp v h
  · exact hq v h
theorem Bts.take {p : List Nat} (h : Bts p) (n : Nat) : Bts (p.take n) := fun v hv => h v (List.mem_of_mem_take hv)
theorem Bts.drop {p : List Nat} (h : Bts p) (n : Nat) : Bts (p.drop n) := fun v hv => h v (List.mem_of_mem_drop hv)
theorem reg_append : ∀ (p q : List Nat) (x : Nat), reg x (p ++ q) = reg (reg x p) q
  | [], _, _ => rfl
  | _ :: p, q, _ => reg_append p q _
theorem reg_lt : ∀ {p : List Nat} {x : Nat}, Bts p → x < 2 ^ 32 → reg x p < 2 ^ 32
  | [], _, _, h => h
  | v :: p, x, hp, h => reg_lt (p := p) hp.cons.2 (Tn_lt 8 (Nat.xor_lt_two_pow h (by have := hp.cons.1; omega)))
theorem reg_num {p : List Nat} (x : Nat) (h : Bts p) : reg x p = Tn (8 * p.length) (x ^^^ num p) := by
  induction p generalizing x with
  | nil =>
    show x = Tn 0 (x ^^^ 0)
    rw [Nat.xor_zero, Tn_nought]
  | cons v p ih =>
    obtain ⟨hv, hp⟩ := h.cons
    rw [reg_cons, num_cons, ih _ hp, List.length_cons, Nat.mul_add, Nat.add_comm (8 * p.length), Nat.mul_one, Tn_add, show 256 = 2 ^ 8 from rfl, ← xor_split 8 v _ hv, ← Nat.xor_assoc, Tn_xor 8 (x ^^^ v), Tn_shift]
theorem num_lt : ∀ {p : List Nat}, Bts p → num p < 2 ^ (8 * p.length)
  | [], _ => by decide
  | v :: p, h => by
    obtain ⟨hv, hp⟩ := h.cons
    have := num_lt hp
    show v + 256 * num p < 2 ^ (8 * (p.length + 1))
    rw [Nat.mul_add, Nat.pow_add, Nat.mul_comm]
    omega
/-- all bits turned over. -/
def M32 : Nat := 4294967295
def upd (c : Nat) (p : List Nat) : Nat := M32 ^^^ reg (M32 ^^^ c) p
theorem xx (a b : Nat) : a ^^^ (a ^^^ b) = b := by rw [← Nat.xor_assoc, Nat.xor_self, Nat.zero_xor]
theorem upd_append (c : Nat) (p q : List Nat) : upd (upd c p) q = upd c (p ++ q) := by
  unfold upd
  rw [xx, reg_append]
theorem m_lt {c : Nat} (h : c < 2 ^ 32) : M32 ^^^ c < 2 ^ 32 := Nat.xor_lt_two_pow (by decide) h
theorem upd_lt {c : Nat} {p : List Nat} (h : c < 2 ^ 32) (hp : Bts p) : upd c p < 2 ^ 32 := m_lt (reg_lt hp (m_lt h))
def joinN (a b n : Nat) : Nat := Tn (8 * n) a ^^^ b
theorem join_sum (p q : List Nat) (hq : Bts q) : joinN (upd 0 p) (upd 0 q) q.length = upd 0 (p ++ q) := by
  unfold joinN upd
  rw [reg_append, Nat.xor_zero, reg_num M32 hq, reg_num (reg M32 p) hq, Nat.xor_comm M32 (Tn _ _), ← Nat.xor_assoc, ← Tn_xor, xor_swap, Nat.xor_self, Nat.zero_xor, Nat.xor_comm]
theorem join_join (a b n m : Nat) : joinN (joinN a 0 n) b m = joinN a b (n + m) := by
  unfold joinN
  rw [Nat.xor_zero, ← Tn_add, Nat.mul_add]
/-- the last four bytes tell the sum of those ahead. -/
def fits (p : List Nat) : Bool := decide (4 ≤ p.length ∧ num (p.drop (p.length - 4)) = upd 0 (p.take (p.length - 4)))
theorem fits_reg {p : List Nat} (hp : Bts p) (h : fits p = true) : reg M32 p = Tn 32 M32 := by
  obtain ⟨h4, he⟩ := of_decide_eq_true h
  have hd := hp.drop (p.length - 4)
  have hl : (p.drop (p.length - 4)).length = 4 := by rw [List.length_drop]; omega
  have e : reg M32 (p.take (p.length - 4) ++ p.drop (p.length - 4)) = Tn 32 M32 := by
    rw [reg_append, reg_num _ hd, hl, he]
    unfold upd
    rw [Nat.xor_zero, Nat.xor_comm M32, xx]
  rwa [List.take_append_drop] at e
theorem num_app : ∀ (p q : List Nat), num (p ++ q) = num p + 2 ^ (8 * p.length) * num q
  | [], q => by show num q = 0 + 2 ^ 0 * num q; omega
  | v :: p, q => by
    show v + 256 * num (p ++ q) = v + 256 * num p + 2 ^ (8 * (p.length + 1)) * num q
    rw [num_app p q, Nat.mul_add 8, Nat.pow_add, Nat.mul_add, Nat.add_assoc, Nat.mul_right_comm]
    omega
/-- A burst is seen. -/
theorem burst_seen {p q : List Nat} {m at_ : Nat} (hp : Bts p) (hq : Bts q) (hl : q.length = p.length) (hm : m < 2 ^ 32) (ha : at_ < 8 * p.length)
    (hn : num q = num p ^^^ (2 ^ at_ * m)) (h0 : m ≠ 0) (h1 : fits p = true) : fits q = false := by
  cases hf : fits q with
  | false => rfl
  | true =>
    exfalso
    have e1 := fits_reg hp h1
    have e2 := fits_reg hq hf
    rw [reg_num _ hq, hn, hl, ← Nat.xor_assoc, Tn_xor, ← reg_num _ hp, e1] at e2
    have e3 : Tn (8 * p.length) (2 ^ at_ * m) = 0 := xor_left (a := Tn 32 M32) (by rw [e2, Nat.xor_zero])
    rw [show 8 * p.length = at_ + (8 * p.length - at_) by omega, Tn_add, Tn_shift] at e3
    exact h0 (Tn_ne _ hm e3)
/-- a bit turned over. -/
theorem num_flip : ∀ {p : List Nat} {k j : Nat}, k < p.length → Bts p → num (p.set k (p.getD k 0 ^^^ 2 ^ j)) = num p ^^^ 2 ^ (8 * k + j) ∨ 8 ≤ j
  | [], k, j, h, _ => by simp at h
  | v :: p, 0, j, _, hp => by
    by_cases hj : j < 8
    · left
      show (v ^^^ 2 ^ j) + 2 ^ 8 * num p = (v + 2 ^ 8 * num p) ^^^ 2 ^ (8 * 0 + j)
      have hv := hp.cons.1
      have h8 : 2 ^ j < 2 ^ 8 := Nat.pow_lt_pow_right (by omega) hj
      rw [← xor_split 8 _ _ (Nat.xor_lt_two_pow hv h8), ← xor_split 8 _ _ hv, Nat.mul_zero, Nat.zero_add, Nat.xor_assoc, Nat.xor_assoc, Nat.xor_comm (2 ^ j)]
    · right; omega
  | v :: p, k + 1, j, h, hp => by
    rcases num_flip (p := p) (k := k) (j := j) (by simpa using h) hp.cons.2 with e | e
    · left
      show v + 2 ^ 8 * num (p.set k (p.getD k 0 ^^^ 2 ^ j)) = (v + 2 ^ 8 * num p) ^^^ 2 ^ (8 * (k + 1) + j)
      have hv := hp.cons.1
      have e8 : 2 ^ (8 * (k + 1) + j) = 2 ^ 8 * 2 ^ (8 * k + j) := by rw [← Nat.pow_add]; congr 1; omega
      have ed : ∀ a b : Nat, 2 ^ 8 * (a ^^^ b) = (2 ^ 8 * a) ^^^ (2 ^ 8 * b) := fun a b => by
        rw [Nat.mul_comm, Nat.mul_comm _ a, Nat.mul_comm _ b, ← Nat.shiftLeft_eq, ← Nat.shiftLeft_eq, ← Nat.shiftLeft_eq, Nat.shiftLeft_xor_distrib]
      rw [e, e8, ed, ← xor_split 8 v (num p) hv, Nat.xor_assoc, ← ed, xor_split 8 v _ hv]
    · right; exact e
/-- the product of two words. -/
def timesN : Nat → Nat → Nat → Nat
  | 0, _, _ => 0
  | k + 1, a, b => (if 2147483648 ≤ a then b else 0) ^^^ timesN k (a * 2 % 4294967296) (T b)
theorem timesN_zero (k : Nat) : ∀ b, timesN k 0 b = 0 := by
  induction k with
  | zero => intro b; rfl
  | succ k ih => intro b; show (if 2147483648 ≤ 0 then b else 0) ^^^ timesN k (0 * 2 % 4294967296) (T b) = 0; rw [if_neg (by omega), Nat.zero_mul, Nat.zero_mod, ih, Nat.xor_zero]
theorem timesN_T (k : Nat) : ∀ a b, timesN k a (T b) = T (timesN k a b) := by
  induction k with
  | zero => intro a b; exact T_zero.symm
  | succ k ih =>
    intro a b
    show (if 2147483648 ≤ a then T b else 0) ^^^ timesN k _ (T (T b)) = T ((if 2147483648 ≤ a then b else 0) ^^^ timesN k _ (T b))
    rw [T_xor, ih]
    split <;> rfl
theorem timesN_Tn (j : Nat) : ∀ k a b, timesN k a (Tn j b) = Tn j (timesN k a b) := by
  induction j with
  | zero => intro k a b; rw [Tn_nought, Tn_nought]
  | succ j ih => intro k a b; show timesN k a (Tn j (T b)) = Tn j (T (timesN k a b)); rw [ih, timesN_T]
theorem timesN_one : ∀ (k i a : Nat), k + i = 32 → a < 2 ^ 32 → a % 2 ^ i = 0 → timesN k a (2 ^ (31 - i)) = a / 2 ^ i
  | 0, i, a, hk, ha, hm => by
    obtain rfl : i = 32 := by omega
    show 0 = a / 2 ^ 32
    omega
  | k + 1, i, a, hk, ha, hm => by
    show (if 2147483648 ≤ a then 2 ^ (31 - i) else 0) ^^^ timesN k (a * 2 % 4294967296) (T (2 ^ (31 - i))) = a / 2 ^ i
    by_cases hi : i = 31
    · obtain rfl : k = 0 := by omega
      subst hi
      show (if 2147483648 ≤ a then 2 ^ 0 else 0) ^^^ 0 = a / 2 ^ 31
      rw [Nat.xor_zero]
      split <;> omega
    · have hT : T (2 ^ (31 - i)) = 2 ^ (31 - (i + 1)) := by
        rw [show 31 - i = (31 - (i + 1)) + 1 by omega, Nat.pow_succ, Nat.mul_comm, T_double]
      have hp : 2 ^ i * 2 ^ (31 - i) = 2147483648 := by rw [← Nat.pow_add, show i + (31 - i) = 31 by omega]
      have hpos : 0 < 2 ^ i := Nat.pow_pos (by omega)
      rw [hT]
      split
      · rename_i h
        obtain ⟨c, rfl⟩ : ∃ c, a = 2147483648 + c := ⟨a - 2147483648, by omega⟩
        have hc : c < 2147483648 := by omega
        have e2 : (2147483648 + c) * 2 % 4294967296 = c * 2 := by omega
        have hcm : c % 2 ^ i = 0 := by rw [← hp, Nat.mul_add_mod] at hm; exact hm
        rw [e2, timesN_one k (i + 1) (c * 2) (by omega) (by omega) (by rw [Nat.pow_succ, Nat.mul_mod_mul_right, hcm, Nat.zero_mul]), Nat.pow_succ, Nat.mul_div_mul_right _ _ (by omega)]
        have hq : c / 2 ^ i < 2 ^ (31 - i) := by rw [Nat.div_lt_iff_lt_mul hpos, Nat.mul_comm, hp]; exact hc
        rw [Nat.xor_comm]
        have := xor_split (31 - i) (c / 2 ^ i) 1 hq
        rw [Nat.mul_one] at this
        rw [this, ← hp, Nat.mul_add_div hpos, Nat.add_comm]
      · rename_i h
        have e2 : a * 2 % 4294967296 = a * 2 := by omega
        rw [Nat.zero_xor, e2, timesN_one k (i + 1) (a * 2) (by omega) (by omega) (by rw [Nat.pow_succ, Nat.mul_mod_mul_right, hm, Nat.zero_mul]), Nat.pow_succ, Nat.mul_div_mul_right _ _ (by omega)]
/-- to multiply by a power of x is to turn. -/
theorem times_turn {a j : Nat} (ha : a < 2 ^ 32) : timesN 32 a (Tn j 2147483648) = Tn j a := by
  rw [timesN_Tn]
  have := timesN_one 32 0 a (by omega) ha (by omega)
  rw [show (2147483648 : Nat) = 2 ^ (31 - 0) by decide, this]
  congr 1
  omega
/-- how many doublings until nothing is left. -/
def cz : Nat → Nat → Nat
  | 0, _ => 0
  | k + 1, a => (if a = 0 then 0 else 1) + cz k (a * 2 % 4294967296)
theorem dbl_pow (a k : Nat) : a * 2 % 4294967296 * 2 ^ k % 4294967296 = a * 2 ^ (k + 1) % 4294967296 := by
  rw [Nat.mul_mod, Nat.mod_mod, ← Nat.mul_mod, Nat.pow_succ, Nat.mul_assoc, Nat.mul_comm 2]
theorem cz_last (k : Nat) : ∀ a, a < 4294967296 → cz (k + 1) a = cz k a + (if a * 2 ^ k % 4294967296 = 0 then 0 else 1) := by
  induction k with
  | zero => intro a ha; show (if a = 0 then 0 else 1) + 0 = 0 + _; rw [Nat.pow_zero, Nat.mul_one, Nat.mod_eq_of_lt ha]; omega
  | succ k ih =>
    intro a ha
    show (if a = 0 then 0 else 1) + cz (k + 1) (a * 2 % 4294967296) = ((if a = 0 then 0 else 1) + cz k (a * 2 % 4294967296)) + _
    rw [ih _ (Nat.mod_lt _ (by omega)), dbl_pow]
    omega
theorem cz_less {a : Nat} (ha : a < 4294967296) (h0 : a ≠ 0) : cz 32 (a * 2 % 4294967296) < cz 32 a := by
  have h : cz 33 a = cz 32 a + (if a * 2 ^ 32 % 4294967296 = 0 then 0 else 1) := cz_last 32 a ha
  have e : a * 2 ^ 32 % 4294967296 = 0 := by rw [show (2 : Nat) ^ 32 = 4294967296 by decide]; exact Nat.mul_mod_left _ _
  rw [e, if_pos rfl] at h
  have h2 : cz 33 a = (if a = 0 then 0 else 1) + cz 32 (a * 2 % 4294967296) := rfl
  rw [if_neg h0] at h2
  omega
theorem times_last (k : Nat) : ∀ a b, a < 4294967296 → timesN (k + 1) a b = timesN k a b ^^^ (if 2147483648 ≤ a * 2 ^ k % 4294967296 then Tn k b else 0) := by
  induction k with
  | zero => intro a b ha; show (if 2147483648 ≤ a then b else 0) ^^^ 0 = 0 ^^^ _; rw [Nat.pow_zero, Nat.mul_one, Nat.mod_eq_of_lt ha, Nat.xor_zero, Nat.zero_xor]; rfl
  | succ k ih =>
    intro a b ha
    show (if 2147483648 ≤ a then b else 0) ^^^ timesN (k + 1) (a * 2 % 4294967296) (T b) = ((if 2147483648 ≤ a then b else 0) ^^^ timesN k (a * 2 % 4294967296) (T b)) ^^^ _
    rw [ih _ _ (Nat.mod_lt _ (by omega)), dbl_pow, ← Nat.xor_assoc]
    rfl
theorem times_step {a : Nat} (ha : a < 4294967296) (b : Nat) : timesN 32 a b = (if 2147483648 ≤ a then b else 0) ^^^ timesN 32 (a * 2 % 4294967296) (T b) := by
  have h := times_last 32 a b ha
  have e : a * 2 ^ 32 % 4294967296 = 0 := by rw [show (2 : Nat) ^ 32 = 4294967296 by decide]; exact Nat.mul_mod_left _ _
  rw [e, if_neg (by omega), Nat.xor_zero] at h
  exact h.symm
theorem times_lt (k : Nat) : ∀ {a b : Nat}, b < 4294967296 → timesN k a b < 4294967296 := by
  induction k with
  | zero => intro a b _; show 0 < _; omega
  | succ k ih =>
    intro a b hb
    have := ih (a := a * 2 % 4294967296) (T_lt hb)
    refine Nat.xor_lt_two_pow (n := 32) ?_ this
    split
    · exact hb
    · omega
theorem toEight : Tn 8 2147483648 = 8388608 := by decide
end Go.Proofs.YtamedcnjanichabGreatDoor.Cr

namespace Go.Proofs.YtamedcnjanichabGreatDoor
open Go.RowKit Go.Extern Cr

attribute [local go_sem] Oper.semAt_some

theorem T_odd {c : Nat} (h : c % 2 = 1) : T c = (c / 2) ^^^ 3988292384 := by
  unfold T P32
  rw [if_pos h, Nat.shiftRight_eq_div_pow]
theorem T_even {c : Nat} (h : c % 2 = 0) : T c = c / 2 := by
  unfold T
  rw [if_neg (by omega), Nat.shiftRight_eq_div_pow, Nat.xor_zero]
theorem and_one (c : Nat) (h : c < 4294967296) : bits .and .u32 (c : Int) 1 = ((c % 2 : Nat) : Int) := by
  rw [show (1 : Int) = ((1 : Nat) : Int) from rfl, u32_and_nat c 1 h (by omega), Nat.and_one_is_mod]
theorem xor_nat {a b : Nat} (ha : a < 4294967296) (hb : b < 4294967296) : bits .xor .u32 (a : Int) (b : Int) = ((a ^^^ b : Nat) : Int) := u32_xor_nat a b ha hb

set_option maxRecDepth 100000 in
set_option maxHeartbeats 2000000 in
theorem kTurn_calls (c : Nat) (h : c < 4294967296) (w : World) : Calls Tryz.prog 95 #[.int .u32 (c : Int)] w fun e w' => e = .returned (.int .u32 ((T c : Nat) : Int)) ∧ w' = w := by
  rcases Nat.mod_two_eq_zero_or_one c with hc | hc
  · rw [T_even hc]
    have e1 : (c : Int) % 2 = 0 := by omega
    go_enter Tryz.func95, Tryz.ntmps95
    go_wp2
    go_ret
    exact ⟨by rw [show (c : Int) / 2 = ((c / 2 : Nat) : Int) by omega]; rfl, rfl⟩
  · rw [T_odd hc]
    have e1 : (c : Int) % 2 = 1 := by omega
    have e3 : bits .xor .u32 ((c : Int) / 2) 3988292384 = (((c / 2) ^^^ 3988292384 : Nat) : Int) := by
      rw [show (c : Int) / 2 = ((c / 2 : Nat) : Int) by omega]
      exact xor_nat (a := c / 2) (b := 3988292384) (by omega) (by omega)
    go_enter Tryz.func95, Tryz.ntmps95
    go_wp2
    go_ret
    exact ⟨rfl, rfl⟩

set_option maxRecDepth 100000 in
set_option maxHeartbeats 2000000 in
theorem kZed_calls (c : Nat) (h : c < 4294967296) (w : World) : Calls Tryz.prog 93 #[.int .u32 (c : Int)] w fun e w' => e = .returned (.int .u32 ((Tn 8 c : Nat) : Int)) ∧ w' = w := by
  go_enter Tryz.func93, Tryz.ntmps93
  go_wp2_with fail
  go_loopw [0, 3] (fun cv nv wr => ∃ k : Nat, k ≤ 8 ∧ nv = .int .i64 k ∧ cv = .int .u32 ((Tn k c : Nat) : Int) ∧ wr = w) (fun _ nv _ => 8 - (intOf nv).toNat)
  case atStart => exact ⟨0, by omega, rfl, rfl, rfl⟩
  case round =>
    obtain ⟨k, hk, rfl, rfl, rfl⟩ := hrel
    have hlt := Tn_lt k (c := c) h
    by_cases hl : k < 8
    · have i1 : (k : Int) < 8 := by omega
      go_wp2_with (go_at_call 95; refine (kTurn_calls _ hlt _).mono ?_; rintro e w' ⟨rfl, rfl⟩)
      refine ⟨⟨k + 1, by omega, rfl, by rw [Tn_succ], by trivial⟩, by simp only [intOf]; omega⟩
    · obtain rfl : k = 8 := by omega
      go_wp2_with fail
      go_ret
      exact ⟨rfl, rfl⟩

end Go.Proofs.YtamedcnjanichabGreatDoor

namespace Go.Proofs.YtamedcnjanichabGreatDoor
open Go.RowKit Go.Extern Cr

theorem u32_signed : IntKind.u32.signed = false := rfl
theorem u32_max : IntKind.u32.max = 4294967295 := by kernel_rfl
attribute [local go_sem] Oper.semAt_some u32_signed u32_max

/-- what the program's table holds. -/
def HasFours (w : World) : Prop := ∀ i, i < 16 → w.cell? ⟨1, i, none⟩ = some (.int .u32 ((F4.getD i 0 : Nat) : Int))
/-- bytes in memory. -/
def HasB (w : World) (lv : Value) (xs : List Nat) : Prop :=
  ∃ ao cap, lv = .slice ao xs.length cap ∧ ∀ (j a : Nat), xs[j]? = some a → ∃ b off, ao = some ⟨b, off, none⟩ ∧ b < w.heap.size ∧ w.cell? ⟨b, off + j, none⟩ = some (.int .u8 (a : Int))
theorem HasB.keep {w w' : World} {lv : Value} {xs : List Nat} (h : HasB w lv xs) (hb : Below w.heap.size w w') : HasB w' lv xs := by
  obtain ⟨ao, cap, e, hc⟩ := h
  refine ⟨ao, cap, e, fun j a hj => ?_⟩
  obtain ⟨b, off, ea, hl, h0⟩ := hc j a hj
  exact ⟨b, off, ea, Nat.lt_of_lt_of_le hl hb.size, (hb.cell (p := ⟨b, _, none⟩) hl).trans h0⟩
theorem HasB.at {w : World} {ao : Option Addr} {n cap : Nat} {xs : List Nat} (h : HasB w (.slice ao n cap) xs) {k : Nat} {a : Nat} (hp : xs[k]? = some a) :
    ∃ b off, ao = some ⟨b, off, none⟩ ∧ b < w.heap.size ∧ w.cell? ⟨b, off + k, none⟩ = some (.int .u8 (a : Int)) := by
  obtain ⟨ao', cap', e, hc⟩ := h
  injection e with e1 e2 e3
  subst e1
  exact hc k a hp
theorem reg_more {l : List Nat} {i : Nat} {v x : Nat} (h : l[i]? = some v) : reg x (l.take (i + 1)) = Tn 8 (reg x (l.take i) ^^^ v) := by
  rw [List.take_add_one, h, reg_append]; rfl
theorem bts_at {l : List Nat} (h : Bts l) {i v : Nat} (hi : l[i]? = some v) : v < 256 := h v (List.mem_of_getElem? hi)
theorem and_15 (c : Nat) (h : c < 4294967296) : bits .and .u32 (c : Int) 15 = ((c % 16 : Nat) : Int) := by
  have := u32_and_nat c 15 h (by omega)
  rw [show c &&& 15 = c % 16 from Nat.and_two_pow_sub_one_eq_mod c 4] at this
  exact this
theorem m32_xor {c : Nat} (h : c < 4294967296) : bits .xor .u32 4294967295 (c : Int) = ((M32 ^^^ c : Nat) : Int) := xor_nat (a := 4294967295) (by omega) h
theorem four_eq (x : Nat) : ((x / 16) ^^^ F4.getD (x % 16) 0) = Tn 4 x := (four_is x).symm
theorem f4_lt (i : Nat) : F4.getD i 0 < 4294967296 := by
  by_cases h : i < 16
  · have := F4_is ⟨i, h⟩
    rw [← this]
    exact Tn_lt 4 (by show i < _; omega)
  · have e : F4[i]? = none := List.getElem?_eq_none (by show 16 ≤ i; omega)
    rw [List.getD_eq_getElem?_getD, e]
    show 0 < _
    omega

set_option maxRecDepth 100000 in
set_option maxHeartbeats 4000000 in
theorem cUpdate_calls (c : Nat) (hc : c < 4294967296) (lo : Option Addr) (lc : Nat) (l : List Nat) (w : World) (hf : HasFours w) (hl : HasB w (.slice lo l.length lc) l) (hb : Bts l) (hm : l.length ≤ 4611686018427387904) :
    Calls Tryz.prog 76 #[.int .u32 (c : Int), .slice lo l.length lc] w fun e w' => e = .returned (.int .u32 ((upd c l : Nat) : Int)) ∧ w' = w := by
  have hx0 := m_lt hc
  have ex := m32_xor hc
  go_enter Tryz.func76, Tryz.ntmps76
  go_wp2_with fail
  go_loopw [5, 12] (fun xv nv wr => ∃ k : Nat, k ≤ l.length ∧ nv = .int .i64 k ∧ xv = .int .u32 ((reg (M32 ^^^ c) (l.take k) : Nat) : Int) ∧ wr = w) (fun _ nv _ => l.length - (intOf nv).toNat)
  case atStart => exact ⟨0, Nat.zero_le _, rfl, rfl, rfl⟩
  case round =>
    obtain ⟨k, hk, rfl, rfl, rfl⟩ := hrel
    have hr := reg_lt (hb.take k) hx0
    by_cases hlt : k < l.length
    · obtain ⟨v, hv⟩ : ∃ v, l[k]? = some v := ⟨l[k], List.getElem?_eq_getElem hlt⟩
      have hv8 := bts_at hb hv
      obtain ⟨b, off, hlo, hbl, q0⟩ := hl.at hv
      subst hlo
      have i1 : (k : Int) < (l.length : Int) := by omega
      have HR : Hid (reg (M32 ^^^ c) (l.take (k + 1)) = Tn 8 (reg (M32 ^^^ c) (l.take k) ^^^ v)) := reg_more hv
      generalize reg (M32 ^^^ c) (l.take k) = x at hr HR ⊢
      have e1 : bits .xor .u32 (x : Int) (v : Int) = ((x ^^^ v : Nat) : Int) := xor_nat hr (by omega)
      have hy : x ^^^ v < 4294967296 := Nat.xor_lt_two_pow (n := 32) hr (by omega)
      generalize x ^^^ v = y at e1 hy HR
      have e2 := and_15 y hy
      have c2 := hf (y % 16) (by omega)
      have e3 : bits .xor .u32 ((y : Int) / 16) ((F4.getD (y % 16) 0 : Nat) : Int) = ((Tn 4 y : Nat) : Int) := by
        rw [show (y : Int) / 16 = ((y / 16 : Nat) : Int) by omega, xor_nat (by omega) (f4_lt _), four_eq]
      generalize F4.getD (y % 16) 0 = t2 at c2 e3
      have hz := Tn_lt 4 (c := y) hy
      have HE : Hid (Tn 8 y = Tn 4 (Tn 4 y)) := eight_is y
      generalize Tn 4 y = z at e3 hz HE
      have e4 := and_15 z hz
      have c4 := hf (z % 16) (by omega)
      have e5 : bits .xor .u32 ((z : Int) / 16) ((F4.getD (z % 16) 0 : Nat) : Int) = ((Tn 4 z : Nat) : Int) := by
        rw [show (z : Int) / 16 = ((z / 16 : Nat) : Int) by omega, xor_nat (by omega) (f4_lt _), four_eq]
      generalize F4.getD (z % 16) 0 = t4 at c4 e5
      have j1 : ((y % 16 : Nat) : Int) < 16 := by omega
      have j2 : ((z % 16 : Nat) : Int) < 16 := by omega
      go_wp2_with fail
      refine ⟨⟨k + 1, by omega, rfl, by rw [HR.out, HE.out], by trivial⟩, by simp only [intOf]; omega⟩
    · obtain rfl : k = l.length := by omega
      rw [List.take_length] at hr ⊢
      have e1 := m32_xor hr
      go_wp2_with fail
      go_ret
      exact ⟨rfl, rfl⟩

set_option maxRecDepth 100000 in
set_option maxHeartbeats 4000000 in
theorem kUpdate_calls (c : Nat) (hc : c < 4294967296) (lo : Option Addr) (lc : Nat) (l : List Nat) (w : World) (hl : HasB w (.slice lo l.length lc) l) (hb : Bts l) (hm : l.length ≤ 4611686018427387904) :
    Calls Tryz.prog 81 #[.int .u32 (c : Int), .slice lo l.length lc] w fun e w' => e = .returned (.int .u32 ((upd c l : Nat) : Int)) ∧ w' = w := by
  have hx0 := m_lt hc
  have ex := m32_xor hc
  go_enter Tryz.func81, Tryz.ntmps81
  go_wp2_with fail
  go_loopw [5, 12] (fun xv nv wr => ∃ k : Nat, k ≤ l.length ∧ nv = .int .i64 k ∧ xv = .int .u32 ((reg (M32 ^^^ c) (l.take k) : Nat) : Int) ∧ wr = w) (fun _ nv _ => l.length - (intOf nv).toNat)
  case atStart => exact ⟨0, Nat.zero_le _, rfl, rfl, rfl⟩
  case round =>
    obtain ⟨k, hk, rfl, rfl, rfl⟩ := hrel
    have hr := reg_lt (hb.take k) hx0
    by_cases hlt : k < l.length
    · obtain ⟨v, hv⟩ : ∃ v, l[k]? = some v := ⟨l[k], List.getElem?_eq_getElem hlt⟩
      have hv8 := bts_at hb hv
      obtain ⟨b, off, hlo, hbl, q0⟩ := hl.at hv
      subst hlo
      have i1 : (k : Int) < (l.length : Int) := by omega
      have HR : Hid (reg (M32 ^^^ c) (l.take (k + 1)) = Tn 8 (reg (M32 ^^^ c) (l.take k) ^^^ v)) := reg_more hv
      generalize reg (M32 ^^^ c) (l.take k) = x at hr HR ⊢
      have e1 : bits .xor .u32 (x : Int) (v : Int) = ((x ^^^ v : Nat) : Int) := xor_nat hr (by omega)
      have hy : x ^^^ v < 4294967296 := Nat.xor_lt_two_pow (n := 32) hr (by omega)
      generalize x ^^^ v = y at e1 hy HR
      go_wp2_with (go_at_call 93; refine (kZed_calls _ hy _).mono ?_; rintro e w' ⟨rfl, rfl⟩)
      refine ⟨⟨k + 1, by omega, rfl, by rw [HR.out], by trivial⟩, by simp only [intOf]; omega⟩
    · obtain rfl : k = l.length := by omega
      rw [List.take_length] at hr ⊢
      have e1 := m32_xor hr
      go_wp2_with fail
      go_ret
      exact ⟨rfl, rfl⟩

set_option maxRecDepth 100000 in
theorem cSum_calls (lo : Option Addr) (lc : Nat) (l : List Nat) (w : World) (hf : HasFours w) (hl : HasB w (.slice lo l.length lc) l) (hb : Bts l) (hm : l.length ≤ 4611686018427387904) :
    Calls Tryz.prog 48 #[.slice lo l.length lc] w fun e w' => e = .returned (.int .u32 ((upd 0 l : Nat) : Int)) ∧ w' = w := by
  go_enter Tryz.func48, Tryz.ntmps48
  go_wp2_with (go_at_call 76; refine (cUpdate_calls 0 (by omega) _ _ _ _ hf hl hb hm).mono ?_; rintro e w' ⟨rfl, rfl⟩)
  go_ret
  exact ⟨rfl, rfl⟩
set_option maxRecDepth 100000 in
theorem kSum_calls (lo : Option Addr) (lc : Nat) (l : List Nat) (w : World) (hl : HasB w (.slice lo l.length lc) l) (hb : Bts l) (hm : l.length ≤ 4611686018427387904) :
    Calls Tryz.prog 64 #[.slice lo l.length lc] w fun e w' => e = .returned (.int .u32 ((upd 0 l : Nat) : Int)) ∧ w' = w := by
  go_enter Tryz.func64, Tryz.ntmps64
  go_wp2_with (go_at_call 81; refine (kUpdate_calls 0 (by omega) _ _ _ _ hl hb hm).mono ?_; rintro e w' ⟨rfl, rfl⟩)
  go_ret
  exact ⟨rfl, rfl⟩

end Go.Proofs.YtamedcnjanichabGreatDoor

namespace Go.Proofs.YtamedcnjanichabGreatDoor
open Go.RowKit Go.Extern Cr

attribute [local go_sem] Oper.semAt_some u32_signed u32_max

theorem fours_keep {w w' : World} (hf : HasFours w) (hg : 1 < w.heap.size) (hb : Below w.heap.size w w') : HasFours w' := fun i hi => (hb.cell (p := ⟨1, i, none⟩) hg).trans (hf i hi)
theorem infoB : ∃ i, Tryz.prog.info? 5 = some i ∧ i.zero = some (.int .u8 0) ∧ i.size = 1 ∧ i.bytes = 1 := by
  have h : (Tryz.prog.info? 5).map (fun i => (i.zero, i.size, i.bytes)) = some (some (.int .u8 0), 1, 1) := by kernel_rfl
  cases hi : Tryz.prog.info? 5 with
  | none => rw [hi] at h; cases h
  | some i => rw [hi] at h; simp at h; exact ⟨i, rfl, h.1, h.2.1, h.2.2⟩
/-- bytes as cells. -/
def bv (l : List Nat) : List Value := l.map fun (n : Nat) => Value.int .u8 (n : Int)
theorem bv_len (l : List Nat) : (bv l).length = l.length * 1 := by simp [bv]
theorem bv_append (l r : List Nat) : bv (l ++ r) = bv l ++ bv r := by simp [bv]
theorem b_lt_get {w : World} {k : Nat} {o : Obj} (h : w.heap[k]? = some o) : k < w.heap.size := by
  rcases Nat.lt_or_ge k w.heap.size with h' | h'
  · exact h'
  · rw [Array.getElem?_eq_none h'] at h; cases h
theorem bown_keep {w w' : World} {B n : Nat} {v : Value} {xs : List Value} (h : w.ownsRow B 5 1 v n xs) (hk : ∀ k, v.ownBlock = some k → w'.heap[k]? = w.heap[k]?) : w'.ownsRow B 5 1 v n xs := by
  obtain ⟨h1, h2⟩ := h
  refine ⟨h1, ?_⟩
  rcases h2 with h2 | ⟨g, cap, cur, e, hb, hh, r⟩
  · exact Or.inl h2
  · subst e
    exact Or.inr ⟨g, cap, cur, rfl, hb, (hk g rfl).trans hh, r⟩
theorem bown_below {w w' : World} {B n : Nat} {v : Value} {xs : List Value} (h : w.ownsRow B 5 1 v n xs) (hb : Below w.heap.size w w') : w'.ownsRow B 5 1 v n xs := bown_keep h fun k hk => hb.block _ (h.lt k hk).2
theorem bown_base {w : World} {B B' n : Nat} {v : Value} {xs : List Value} (h : w.ownsRow B' 5 1 v n xs) (hb : B ≤ B') : w.ownsRow B 5 1 v n xs := by
  obtain ⟨h1, h2⟩ := h
  refine ⟨h1, ?_⟩
  rcases h2 with h2 | ⟨g, cap, cur, e, hg, r⟩
  · exact Or.inl h2
  · exact Or.inr ⟨g, cap, cur, e, by omega, r⟩
theorem bown_slice {w : World} {B n : Nat} {v : Value} {xs : List Value} (h : w.ownsRow B 5 1 v n xs) : ∃ ao cap, v = .slice ao n cap := by
  rcases h.2 with ⟨h, h'⟩ | ⟨g, cap, cur, h, _⟩
  · exact ⟨none, 0, by rw [h']; exact h⟩
  · exact ⟨_, cap, h⟩
theorem hasB_own {w : World} {B : Nat} {v : Value} {l : List Nat} (h : w.ownsRow B 5 1 v l.length (bv l)) : HasB w v l := by
  rcases h.2 with ⟨e, h0⟩ | ⟨g, cap, cur, rfl, hg, hh, _⟩
  · have : l = [] := List.eq_nil_of_length_eq_zero h0
    subst this
    exact ⟨none, 0, e, fun j p hj => by simp at hj⟩
  · refine ⟨_, cap, rfl, fun j a hj => ⟨g, 0, rfl, b_lt_get hh, ?_⟩⟩
    have hlt := (List.getElem?_eq_some_iff.1 hj).1
    rw [Nat.zero_add]
    exact (h.cellAt j (by omega)).trans (by simp [bv, hj])
theorem bbelow_grown {w0 w w' : World} {base n : Nat} {xs : List Value} {v : Value} (hb : Below base w0 w) (h : w.ownsRow base 5 1 v n xs) (hg : w.grownBy w' v.ownBlock) (hs : base ≤ w.heap.size) : Below base w0 w' :=
  hb.trans ⟨hg.os, hg.tape, hg.output, hg.size, fun j hj => hg.block j (Nat.lt_of_lt_of_le hj hs) (fun e => by have := (h.lt j e.symm).1; omega)⟩
theorem hasB_cells {w : World} {b off n cap : Nat} {l : List Nat} (h : HasB w (.slice (some ⟨b, off, none⟩) n cap) l) : ∀ j u, (bv l)[j]? = some u → w.cell? ((⟨b, off, none⟩ : Addr).add j) = some u := by
  intro j u hj
  simp only [bv, List.getElem?_map, Option.map_eq_some_iff] at hj
  obtain ⟨a, ha, rfl⟩ := hj
  obtain ⟨b', off', e, _, hc⟩ := h.at ha
  injection e with e
  injection e with e1 e2 e3
  subst e1 e2
  have e : (Addr.mk b off none).add j = ⟨b, off + j, none⟩ := by unfold Addr.add; split <;> simp_all
  rw [e]
  exact hc
theorem bv_one (l : List Nat) : ∀ u ∈ bv l, u.oneCell' = true := by
  intro u hu
  simp only [bv, List.mem_map] at hu
  obtain ⟨n, _, rfl⟩ := hu
  rfl
theorem hasB_nil {w : World} {n cap : Nat} {l : List Nat} (h : HasB w (.slice none n cap) l) : l = [] := by
  cases l with
  | nil => rfl
  | cons a r =>
    obtain ⟨b, off, e, _⟩ := h.at (k := 0) (a := a) rfl
    cases e
theorem hasB_plain {w : World} {ad : Addr} {n cap : Nat} {l : List Nat} (h : HasB w (.slice (some ad) n cap) l) (h0 : l ≠ []) : ∃ b off, ad = ⟨b, off, none⟩ := by
  cases l with
  | nil => exact absurd rfl h0
  | cons a r =>
    obtain ⟨b, off, e, _⟩ := h.at (k := 0) (a := a) rfl
    exact ⟨b, off, Option.some.inj e⟩

theorem hasB_cells' {w : World} {ad : Addr} {n cap : Nat} {l : List Nat} (h : HasB w (.slice (some ad) n cap) l) : ∀ j u, (bv l)[j]? = some u → w.cell? (ad.add j) = some u := by
  intro j u hj
  have h0 : l ≠ [] := by rintro rfl; simp [bv] at hj
  obtain ⟨b, off, rfl⟩ := hasB_plain h h0
  exact hasB_cells h j u hj

/-- bytes behind a row of one's own, wherever they lie. -/
theorem wpList_append_B {w : World} {ops : Array Oper} {rest : List Oper} {o : Oper} {a : Act} {Q : Exit → Act → World → Prop} (hgd : o.guard = none) (s x : Operand)
    (ho : o.op = .call { callee := .builtin .append, args := #[s, x], argTypes := #[26, 26] })
    (base : Nat) (v : Value) (L : List Nat) (hs : a.eval s = v) (hown : w.ownsRow base 5 1 v L.length (bv L))
    (lo : Option Addr) (lc : Nat) (l : List Nat) (hx : a.eval x = .slice lo l.length lc) (hl : HasB w (.slice lo l.length lc) l) (hno : lo = none → lc = 0)
    (hlen : L.length + l.length ≤ 140737488355328) (hbase : base ≤ w.heap.size)
    (h : ∀ v' w', w'.ownsRow base 5 1 v' (L ++ l).length (bv (L ++ l)) → w.grownBy w' v.ownBlock → wpList Tryz.prog ops Q rest (a.put o.dst v') w') : wpList Tryz.prog ops Q (o :: rest) a w := by
  obtain ⟨i0, hi, hz0, hz1, hz2⟩ := infoB
  cases lo with
  | none =>
    have hc := hno rfl
    subst hc
    obtain rfl := hasB_nil hl
    refine wpList_append_own_none hgd s x 26 ho base 5 i0 1 Tryz.underlying26 hi v L.length (bv L) hs hown hx ?_
    exact h v w (by simpa using hown) ⟨rfl, rfl, rfl, Nat.le_refl _, fun _ _ _ => rfl⟩
  | some ad =>
    refine wpList_append_own _ hgd s x 26 ho base 5 i0 (.int .u8 0) 1 1 Tryz.underlying26 hi hz0 hz1 hz2 rfl (by decide) v L.length (bv L) hs hown ad l.length lc (bv l) hx (bv_len l) (hasB_cells' hl) (bv_one l) (by unfold maxLen; omega) (by omega) hbase ?_
    intro v' w' h1 h2 _
    exact h v' w' (by rw [List.length_append, bv_append]; exact h1) h2

/-- the string that bytes are. -/
def strOf (l : List Nat) : ByteArray := (l.map fun (n : Nat) => (n : Int)).foldl (fun r n => r.push (UInt8.ofNat n.toNat)) ByteArray.empty
theorem run_bytesStr {w : World} {lo : Option Addr} {lc : Nat} {l : List Nat} (hl : HasB w (.slice lo l.length lc) l) : (convert 26 9 (.slice lo l.length lc)).run Tryz.prog w = .ok (.string (strOf l)) w := by
  rw [run_convert_bytes_string w 26 9 5 _ _ _ Tryz.underlying26 Tryz.underlying5 Tryz.underlying9]
  cases lo with
  | none =>
    obtain rfl := hasB_nil hl
    simp [Conv.bytesToString, Sem.run_pure, strOf]
  | some ad =>
    refine run_bytesToString w ad l.length lc (l.map fun (n : Nat) => (n : Int)) ?_
    have h := run_loadCells_list (P := Tryz.prog) (w := w) ad (bv l) (hasB_cells' hl)
    have e : (l.map fun (n : Nat) => (n : Int)).map (Value.int .u8) = bv l := by simp [bv]
    rw [e]
    have e2 : (bv l).length = l.length := by rw [bv_len, Nat.mul_one]
    rw [e2] at h
    exact h
theorem wpList_bytesStr {w : World} {ops : Array Oper} {rest : List Oper} {o : Oper} {a : Act} {Q : Exit → Act → World → Prop} (hgd : o.guard = none) (s : Operand) (ho : o.op = .convert 26 9 s)
    {lo : Option Addr} {lc : Nat} {l : List Nat} (hl : HasB w (.slice lo l.length lc) l) (hs : a.eval s = .slice lo l.length lc)
    (h : wpList Tryz.prog ops Q rest (a.put o.dst (.string (strOf l))) w) : wpList Tryz.prog ops Q (o :: rest) a w := by
  refine wpList_plain hgd fun K hK => ?_
  have hrun := run_bytesStr hl
  unfold Oper.wp
  simp [execOp, ho, hs, hrun, Result.andThen]
  exact hK _ _ h
set_option maxRecDepth 100000 in
set_option maxHeartbeats 1000000 in
theorem kSame_calls (ao bo : Option Addr) (ac bc : Nat) (l : List Nat) (w : World) (ha : HasB w (.slice ao l.length ac) l) (hb : HasB w (.slice bo l.length bc) l) :
    Calls Tryz.prog 9 #[.slice ao l.length ac, .slice bo l.length bc] w fun e w' => e = .returned (.bool true) ∧ w' = w := by
  have HA : Hid (type_of% ha) := ha
  have HB : Hid (type_of% hb) := hb
  clear ha hb
  go_enter Tryz.func9, Tryz.ntmps9
  go_wp2_with (first | (refine wpList_bytesStr rfl (.tmp 5) rfl HA.out rfl ?_) | (refine wpList_bytesStr rfl (.tmp 7) rfl HB.out rfl ?_))
  go_ret
  exact ⟨rfl, rfl⟩
end Go.Proofs.YtamedcnjanichabGreatDoor

namespace Go.Proofs.YtamedcnjanichabGreatDoor
open Go.RowKit Go.Extern Cr

attribute [local go_sem] Oper.semAt_some u32_signed u32_max

/-- the four bytes of a word. -/
def le4 (s : Nat) : List Nat := [s % 256, s / 256 % 256, s / 65536 % 256, s / 16777216 % 256]
def sealOf (l : List Nat) : List Nat := l ++ le4 (upd 0 l)
theorem le4_bts (s : Nat) : Bts (le4 s) := by
  intro v hv
  simp [le4] at hv
  omega
theorem le4_num {s : Nat} (h : s < 4294967296) : num (le4 s) = s := by
  simp only [le4, num]
  omega
theorem seal_len (l : List Nat) : (sealOf l).length = l.length + 4 := by simp [sealOf, le4]
theorem seal_bts {l : List Nat} (h : Bts l) : Bts (sealOf l) := h.app (le4_bts _)
theorem seal_fits {l : List Nat} (h : Bts l) : fits (sealOf l) = true := by
  have hl := seal_len l
  have e1 : (sealOf l).drop l.length = le4 (upd 0 l) := by simp [sealOf]
  have e2 : (sealOf l).take l.length = l := by simp [sealOf]
  unfold fits
  rw [hl, show l.length + 4 - 4 = l.length by omega, e1, e2, le4_num (upd_lt (by omega) h)]
  simp
theorem hasB_four (w : World) (a b c d : Nat) : HasB (w.alloc (.cells #[.int .u8 (a : Int), .int .u8 (b : Int), .int .u8 (c : Int), .int .u8 (d : Int)] 5)) (.slice (some ⟨w.heap.size, 0, none⟩) 4 4) [a, b, c, d] := by
  have h : (w.alloc (.cells #[.int .u8 (a : Int), .int .u8 (b : Int), .int .u8 (c : Int), .int .u8 (d : Int)] 5)).heap[w.heap.size]? = some (.cells #[.int .u8 (a : Int), .int .u8 (b : Int), .int .u8 (c : Int), .int .u8 (d : Int)] 5) := by show (w.heap.push _)[w.heap.size]? = _; simp
  generalize w.alloc (.cells #[.int .u8 (a : Int), .int .u8 (b : Int), .int .u8 (c : Int), .int .u8 (d : Int)] 5) = W at h
  refine ⟨_, 4, rfl, fun j x hj => ⟨w.heap.size, 0, rfl, b_lt_get h, ?_⟩⟩
  rw [Nat.zero_add]
  simp only [World.cell?, h]
  rcases j with _ | _ | _ | _ | j
  all_goals first | (simp at hj; done) | (simp at hj; subst hj; simp)
theorem hasB_le4 (w : World) {s : Nat} (hs : s < 4294967296) : HasB (w.alloc (.cells #[.int .u8 ((s : Int) % 256), .int .u8 ((s : Int) / 256 % 256), .int .u8 ((s : Int) / 65536 % 256), .int .u8 ((s : Int) / 16777216)] 5)) (.slice (some ⟨w.heap.size, 0, none⟩) (le4 s).length 4) (le4 s) := by
  have h := hasB_four w (s % 256) (s / 256 % 256) (s / 65536 % 256) (s / 16777216 % 256)
  have e0 : ((s % 256 : Nat) : Int) = (s : Int) % 256 := by omega
  have e1 : ((s / 256 % 256 : Nat) : Int) = (s : Int) / 256 % 256 := by omega
  have e2 : ((s / 65536 % 256 : Nat) : Int) = (s : Int) / 65536 % 256 := by omega
  have e3 : ((s / 16777216 % 256 : Nat) : Int) = (s : Int) / 16777216 := by omega
  rw [e0, e1, e2, e3] at h
  exact h

set_option maxRecDepth 100000 in
set_option maxHeartbeats 1000000 in
theorem kSeal_calls (lo : Option Addr) (lc : Nat) (l : List Nat) (w : World) (hl : HasB w (.slice lo l.length lc) l) (hb : Bts l) (hm : l.length + 4 ≤ 140737488355328) (hc : lo = none → lc = 0) :
    Calls Tryz.prog 35 #[.slice lo l.length lc] w fun e w' => ∃ mo mc, e = .returned (.slice mo (l.length + 4) mc) ∧ w'.ownsRow w.heap.size 5 1 (.slice mo (l.length + 4) mc) (l.length + 4) (bv (sealOf l)) ∧ Below w.heap.size w w' := by
  have HL : Hid (HasB w (.slice lo l.length lc) l) := hl
  have HC : Hid (lo = none → lc = 0) := hc
  have HS : Hid (sealOf l = l ++ le4 (upd 0 l)) := (rfl : sealOf l = l ++ le4 (upd 0 l))
  have hs : upd 0 l < 4294967296 := upd_lt (by omega) hb
  have eS := kSum_calls lo lc l w hl hb (by omega)
  clear hl hc
  generalize upd 0 l = s at *
  go_enter Tryz.func35, Tryz.ntmps35
  go_wp2_with (first
    | (go_at_call 64; refine eS.mono ?_; rintro e w' ⟨rfl, rfl⟩)
    | (at_builtin; refine wpList_append_B rfl _ _ rfl w'.heap.size (.slice none 0 0) [] rfl (World.ownsRow_nil _ _ _ _) lo lc l rfl HL.out HC.out (by simp only [List.length_nil]; omega) (Nat.le_refl _) ?_; intro v5 w5 hown5 hgr5; have H5 : Hid (w5.ownsRow w'.heap.size 5 1 v5 l.length (bv l) ∧ Below w'.heap.size w' w5) := (by refine ⟨?_, bbelow_grown (Below.refl _ _) (World.ownsRow_nil _ _ _ _) hgr5 (Nat.le_refl _)⟩; simpa using hown5); clear hown5 hgr5; obtain ⟨po, pc, hv5⟩ := bown_slice H5.out.1; subst hv5)
    | (at_builtin; refine wpList_append_B rfl _ _ rfl w'.heap.size (.slice po l.length pc) l rfl (bown_below H5.out.1 ((Below.refl _ w5).alloc (Nat.le_refl _) _)) (some ⟨w5.heap.size, 0, none⟩) 4 (le4 s) rfl (hasB_le4 w5 hs) (fun e => by cases e) (by show l.length + 4 ≤ _; omega) (by have := H5.out.2.size; simp; omega) ?_; intro v6 w6 hown6 hgr6; have H6 : Hid (w6.ownsRow w'.heap.size 5 1 v6 (l.length + 4) (bv (sealOf l)) ∧ Below w'.heap.size w' w6) := (by refine ⟨?_, bbelow_grown (H5.out.2.alloc H5.out.2.size _) (bown_below H5.out.1 ((Below.refl _ w5).alloc (Nat.le_refl _) _)) hgr6 (by have := H5.out.2.size; simp; omega)⟩; rw [HS.out]; rw [List.length_append] at hown6; exact hown6); clear hown6 hgr6; obtain ⟨ro, rc, hv6⟩ := bown_slice H6.out.1; subst hv6))
  go_ret
  exact ⟨ro, rc, rfl, H6.out.1, H6.out.2⟩

set_option maxRecDepth 100000 in
set_option maxHeartbeats 1000000 in
theorem cSeal_calls (lo : Option Addr) (lc : Nat) (l : List Nat) (w : World) (hf : HasFours w) (hg : 1 < w.heap.size) (hl : HasB w (.slice lo l.length lc) l) (hb : Bts l) (hm : l.length + 4 ≤ 140737488355328) (hc : lo = none → lc = 0) :
    Calls Tryz.prog 22 #[.slice lo l.length lc] w fun e w' => ∃ mo mc, e = .returned (.slice mo (l.length + 4) mc) ∧ w'.ownsRow w.heap.size 5 1 (.slice mo (l.length + 4) mc) (l.length + 4) (bv (sealOf l)) ∧ Below w.heap.size w w' := by
  obtain ⟨i0, hi, hz0, hz1, hz2⟩ := infoB
  have HL : Hid (HasB w (.slice lo l.length lc) l) := hl
  have HC : Hid (lo = none → lc = 0) := hc
  have HS : Hid (sealOf l = l ++ le4 (upd 0 l)) := (rfl : sealOf l = l ++ le4 (upd 0 l))
  have hs : upd 0 l < 4294967296 := upd_lt (by omega) hb
  have ES : Hid (∀ wx, Below w.heap.size w wx → Calls Tryz.prog 48 #[.slice lo l.length lc] wx fun e w' => e = .returned (.int .u32 ((upd 0 l : Nat) : Int)) ∧ w' = wx) := fun wx hx => cSum_calls lo lc l wx (fours_keep hf hg hx) (hl.keep hx) hb (by omega)
  clear hl hc hf
  generalize upd 0 l = s at *
  go_enter Tryz.func22, Tryz.ntmps22
  go_wp2_with (first
    | (refine wpList_make_own _ rfl _ _ 26 rfl w.heap.size 5 i0 (.int .u8 0) 1 Tryz.underlying26 hi hz0 hz1 .i64 .i64 ((l.length : Int) + 4) (l.length + 4) rfl rfl rfl ?hby ?h63 ?hbase ?_; (case hby => rw [hz2]; omega); (case h63 => unfold maxLen; omega); (case hbase => exact Nat.le_refl _); intro w2 hown2 hgrow2; have H2 : Hid (w2.ownsRow w.heap.size 5 1 (.slice (some ⟨w.heap.size, 0, none⟩) 0 (l.length + 4)) 0 [] ∧ Below w.heap.size w w2) := ⟨hown2, hgrow2.os, hgrow2.tape, hgrow2.output, hgrow2.size, fun k hk => hgrow2.block k hk (by simp)⟩; clear hown2 hgrow2)
    | (go_at_call 48; refine (ES.out _ H5.out.2).mono ?_; rintro e w' ⟨rfl, rfl⟩)
    | (at_builtin; refine wpList_append_B rfl _ _ rfl w.heap.size (.slice (some ⟨w.heap.size, 0, none⟩) 0 (l.length + 4)) [] rfl H2.out.1 lo lc l rfl (HL.out.keep H2.out.2) HC.out (by simp only [List.length_nil]; omega) H2.out.2.size ?_; intro v5 w5 hown5 hgr5; have H5 : Hid (w5.ownsRow w.heap.size 5 1 v5 l.length (bv l) ∧ Below w.heap.size w w5) := (by refine ⟨?_, bbelow_grown H2.out.2 H2.out.1 hgr5 H2.out.2.size⟩; simpa using hown5); clear hown5 hgr5; obtain ⟨po, pc, hv5⟩ := bown_slice H5.out.1; subst hv5)
    | (at_builtin; refine wpList_append_B rfl _ _ rfl w.heap.size (.slice po l.length pc) l rfl (bown_below H5.out.1 ((Below.refl _ w').alloc (Nat.le_refl _) _)) (some ⟨w'.heap.size, 0, none⟩) 4 (le4 s) rfl (hasB_le4 w' hs) (fun e => by cases e) (by show l.length + 4 ≤ _; omega) (by have := H5.out.2.size; simp; omega) ?_; intro v6 w6 hown6 hgr6; have H6 : Hid (w6.ownsRow w.heap.size 5 1 v6 (l.length + 4) (bv (sealOf l)) ∧ Below w.heap.size w w6) := (by refine ⟨?_, bbelow_grown (H5.out.2.alloc H5.out.2.size _) (bown_below H5.out.1 ((Below.refl _ w').alloc (Nat.le_refl _) _)) hgr6 (by have := H5.out.2.size; simp; omega)⟩; rw [HS.out]; rw [List.length_append] at hown6; exact hown6); clear hown6 hgr6; obtain ⟨ro, rc, hv6⟩ := bown_slice H6.out.1; subst hv6))
  go_ret
  exact ⟨ro, rc, rfl, H6.out.1, H6.out.2⟩
end Go.Proofs.YtamedcnjanichabGreatDoor

namespace Go.Proofs.YtamedcnjanichabGreatDoor
open Go.RowKit Go.Extern Cr

attribute [local go_sem] Oper.semAt_some u32_signed u32_max

theorem Tryz.elemB : Tryz.prog.underlying 26 = some (.slice (Tryz.prog.elem 26)) := by kernel_rfl
theorem Tryz.sizeB (w : World) : (sizeOf (Tryz.prog.elem 26)).run Tryz.prog w = .ok 1 w := by kernel_rfl
theorem or_split (k x y : Nat) (h : x < 2 ^ k) : x ||| (2 ^ k * y) = x + 2 ^ k * y := by
  rw [Nat.or_comm, Nat.add_comm, Nat.two_pow_add_eq_or_of_lt h]
theorem or_nat {a b : Nat} (ha : a < 4294967296) (hb : b < 4294967296) : bits .or .u32 (a : Int) (b : Int) = ((a ||| b : Nat) : Int) := u32_or_nat a b ha hb
theorem slice_uptoB (b off n lc i : Nat) (h : n ≤ lc) (hi : i ≤ n) (w : World) : (Instr.slice 26 (.slice (some ⟨b, off, none⟩) n lc) none (some (.int .i64 (i : Int))) none).run Tryz.prog w = .ok (.slice (some ⟨b, off, none⟩) i lc) w := by
  rw [run_slice_h (ht := Tryz.elemB) (h0 := by omega) (h2 := by omega), Tryz.sizeB]
  have e2 : (i : Int).toNat = i := by omega
  simp only [Result.andThen_ok, sliced, e2]
  simp [Addr.add]
theorem hasB_take {w : World} {lo : Option Addr} {lc n : Nat} {l : List Nat} (h : HasB w (.slice lo n lc) l) (k : Nat) : HasB w (.slice lo (l.take k).length lc) (l.take k) := by
  refine ⟨lo, lc, rfl, fun j a hj => ?_⟩
  have hj' : l[j]? = some a := by
    rw [List.getElem?_take] at hj
    split at hj
    · exact hj
    · cases hj
  obtain ⟨b, off, e, hb, hc⟩ := h.at hj'
  exact ⟨b, off, e, hb, hc⟩
theorem fits_short {l : List Nat} (h : l.length < 4) : fits l = false := by
  unfold fits
  rw [decide_eq_false]
  omega
theorem drop4 {l : List Nat} {k a b c d : Nat} (hk : l.length = k + 4) (h0 : l[k]? = some a) (h1 : l[k + 1]? = some b) (h2 : l[k + 2]? = some c) (h3 : l[k + 3]? = some d) : l.drop k = [a, b, c, d] := by
  apply List.ext_getElem?
  intro i
  rw [List.getElem?_drop]
  rcases i with _ | _ | _ | _ | i
  · simpa using h0
  · simpa using h1
  · simpa using h2
  · simpa using h3
  · rw [List.getElem?_eq_none (by omega)]
    simp
theorem fits_four {l : List Nat} {k a b c d : Nat} (hk : l.length = k + 4) (h0 : l[k]? = some a) (h1 : l[k + 1]? = some b) (h2 : l[k + 2]? = some c) (h3 : l[k + 3]? = some d) :
    fits l = decide (a + 256 * b + 65536 * c + 16777216 * d = upd 0 (l.take k)) := by
  unfold fits
  rw [hk, show k + 4 - 4 = k by omega, drop4 hk h0 h1 h2 h3]
  apply decide_eq_decide.2
  simp only [num]
  constructor
  · rintro ⟨_, h⟩
    omega
  · intro h
    exact ⟨by omega, by omega⟩

set_option maxRecDepth 100000 in
set_option maxHeartbeats 1000000 in
theorem cFits_calls (lo : Option Addr) (lc : Nat) (l : List Nat) (w : World) (hf : HasFours w) (hg : 1 < w.heap.size) (hl : HasB w (.slice lo l.length lc) l) (hb : Bts l) (hm : l.length ≤ 140737488355328) (hcap : l.length ≤ lc) :
    Calls Tryz.prog 70 #[.slice lo l.length lc] w fun e w' => e = .returned (.bool (fits l)) ∧ Below w.heap.size w w' := by
  by_cases h4 : l.length < 4
  · rw [fits_short h4]
    have i1 : (l.length : Int) - 4 < 0 := by omega
    go_enter Tryz.func70, Tryz.ntmps70
    go_wp2_with fail
    go_ret
    exact ⟨rfl, Below.refl _ _⟩
  · obtain ⟨k, hk⟩ : ∃ k, l.length = k + 4 := ⟨l.length - 4, by omega⟩
    obtain ⟨a0, h0⟩ : ∃ v, l[k]? = some v := ⟨l[k]'(by omega), List.getElem?_eq_getElem _⟩
    obtain ⟨a1, h1⟩ : ∃ v, l[k + 1]? = some v := ⟨l[k + 1]'(by omega), List.getElem?_eq_getElem _⟩
    obtain ⟨a2, h2⟩ : ∃ v, l[k + 2]? = some v := ⟨l[k + 2]'(by omega), List.getElem?_eq_getElem _⟩
    obtain ⟨a3, h3⟩ : ∃ v, l[k + 3]? = some v := ⟨l[k + 3]'(by omega), List.getElem?_eq_getElem _⟩
    have b0 := bts_at hb h0
    have b1 := bts_at hb h1
    have b2 := bts_at hb h2
    have b3 := bts_at hb h3
    obtain ⟨b, off, hlo, hbl, c0⟩ := hl.at h0
    subst hlo
    obtain ⟨_, _, e1, _, c1⟩ := hl.at h1
    cases e1
    obtain ⟨_, _, e2, _, c2⟩ := hl.at h2
    cases e2
    obtain ⟨_, _, e3, _, c3⟩ := hl.at h3
    cases e3
    have hlk : (l.take k).length = k := by rw [List.length_take]; omega
    have ES : Hid (∀ wx, Below w.heap.size w wx → Calls Tryz.prog 48 #[.slice (some ⟨b, off, none⟩) k lc] wx fun e w' => e = .returned (.int .u32 ((upd 0 (l.take k) : Nat) : Int)) ∧ w' = wx) := fun wx hx => by
      have := cSum_calls (some ⟨b, off, none⟩) lc (l.take k) wx (fours_keep hf hg hx) (hasB_take (hl.keep hx) k) (hb.take k) (by omega)
      rwa [hlk] at this
    have hsl : ∀ wx, (Instr.slice 26 (.slice (some ⟨b, off, none⟩) (k + 4) lc) none (some (.int .i64 (k : Int))) none).run Tryz.prog wx = .ok (.slice (some ⟨b, off, none⟩) k lc) wx := fun wx => slice_uptoB b off (k + 4) lc k (by omega) (by omega) wx
    rw [fits_four hk h0 h1 h2 h3, hk]
    have hs : upd 0 (l.take k) < 4294967296 := upd_lt (by omega) (hb.take k)
    generalize upd 0 (l.take k) = s at *
    have o1 : bits .or .u32 (a0 : Int) ((a1 : Int) * 256) = ((a0 + 256 * a1 : Nat) : Int) := by
      rw [show (a1 : Int) * 256 = ((2 ^ 8 * a1 : Nat) : Int) by omega, or_nat (by omega) (by omega), or_split 8 _ _ (by omega)]
    have o2 : bits .or .u32 ((a0 + 256 * a1 : Nat) : Int) ((a2 : Int) * 65536) = ((a0 + 256 * a1 + 65536 * a2 : Nat) : Int) := by
      rw [show (a2 : Int) * 65536 = ((2 ^ 16 * a2 : Nat) : Int) by omega, or_nat (by omega) (by omega), or_split 16 _ _ (by omega)]
    have o3 : bits .or .u32 ((a0 + 256 * a1 + 65536 * a2 : Nat) : Int) ((a3 : Int) * 16777216) = ((a0 + 256 * a1 + 65536 * a2 + 16777216 * a3 : Nat) : Int) := by
      rw [show (a3 : Int) * 16777216 = ((2 ^ 24 * a3 : Nat) : Int) by omega, or_nat (by omega) (by omega), or_split 24 _ _ (by omega)]
    have hlt1 : a0 + 256 * a1 < 65536 := by omega
    have hlt2 : a0 + 256 * a1 + 65536 * a2 < 16777216 := by omega
    have hlt3 : a0 + 256 * a1 + 65536 * a2 + 16777216 * a3 < 4294967296 := by omega
    generalize a0 + 256 * a1 + 65536 * a2 + 16777216 * a3 = t3 at *
    generalize a0 + 256 * a1 + 65536 * a2 = t2 at *
    generalize a0 + 256 * a1 = t1 at *
    clear hl hf hg h0 h1 h2 h3 hb hlk
    have i1 : ¬ ((k : Int) + 4 - 4 < 0) := by omega
    go_enter Tryz.func70, Tryz.ntmps70
    go_wp2_with fail
    go_quiet (fail)
    go_wp2_with (go_at_call 48; refine (ES.out _ (below_drewN (Below.refl _ _) nq)).mono ?_; rintro e w' ⟨rfl, rfl⟩)
    go_ret
    refine ⟨?_, below_drewN (Below.refl _ _) nq⟩
    have e : decide (t3 = s) = ((t3 : Int) == (s : Int)) := by
      rw [Bool.eq_iff_iff]
      simp
      omega
    rw [e]
    rfl

theorem four_or {s a b c d : Nat} (ha : a < 256) (hb : b < 256) (hc : c < 256) (h : a + 256 * b + 65536 * c + 16777216 * d = s) : (a : Int) = (s : Int) % 256 ∧ (b : Int) = (s : Int) / 256 % 256 ∧ (c : Int) = (s : Int) / 65536 % 256 ∧ (d : Int) = (s : Int) / 16777216 := by omega
theorem four_nor {s a b c d : Nat} (ha : a < 256) (hb : b < 256) (hc : c < 256) (h : ¬ a + 256 * b + 65536 * c + 16777216 * d = s) :
    (¬ (a : Int) = (s : Int) % 256) ∨ ((a : Int) = (s : Int) % 256 ∧ ¬ (b : Int) = (s : Int) / 256 % 256) ∨ ((a : Int) = (s : Int) % 256 ∧ (b : Int) = (s : Int) / 256 % 256 ∧ ¬ (c : Int) = (s : Int) / 65536 % 256) ∨ ((a : Int) = (s : Int) % 256 ∧ (b : Int) = (s : Int) / 256 % 256 ∧ (c : Int) = (s : Int) / 65536 % 256 ∧ ¬ (d : Int) = (s : Int) / 16777216) := by omega

set_option maxRecDepth 100000 in
set_option maxHeartbeats 1000000 in
theorem kFits_calls (lo : Option Addr) (lc : Nat) (l : List Nat) (w : World) (hl : HasB w (.slice lo l.length lc) l) (hb : Bts l) (hm : l.length ≤ 140737488355328) (hcap : l.length ≤ lc) :
    Calls Tryz.prog 55 #[.slice lo l.length lc] w fun e w' => e = .returned (.bool (fits l)) ∧ Below w.heap.size w w' := by
  by_cases h4 : l.length < 4
  · rw [fits_short h4]
    have i1 : (l.length : Int) - 4 < 0 := by omega
    go_enter Tryz.func55, Tryz.ntmps55
    go_wp2_with fail
    go_ret
    exact ⟨rfl, Below.refl _ _⟩
  · obtain ⟨k, hk⟩ : ∃ k, l.length = k + 4 := ⟨l.length - 4, by omega⟩
    obtain ⟨a0, h0⟩ : ∃ v, l[k]? = some v := ⟨l[k]'(by omega), List.getElem?_eq_getElem _⟩
    obtain ⟨a1, h1⟩ : ∃ v, l[k + 1]? = some v := ⟨l[k + 1]'(by omega), List.getElem?_eq_getElem _⟩
    obtain ⟨a2, h2⟩ : ∃ v, l[k + 2]? = some v := ⟨l[k + 2]'(by omega), List.getElem?_eq_getElem _⟩
    obtain ⟨a3, h3⟩ : ∃ v, l[k + 3]? = some v := ⟨l[k + 3]'(by omega), List.getElem?_eq_getElem _⟩
    have b0 := bts_at hb h0
    have b1 := bts_at hb h1
    have b2 := bts_at hb h2
    have b3 := bts_at hb h3
    obtain ⟨b, off, hlo, hbl, c0⟩ := hl.at h0
    subst hlo
    obtain ⟨_, _, e1, _, c1⟩ := hl.at h1
    cases e1
    obtain ⟨_, _, e2, _, c2⟩ := hl.at h2
    cases e2
    obtain ⟨_, _, e3, _, c3⟩ := hl.at h3
    cases e3
    have hlk : (l.take k).length = k := by rw [List.length_take]; omega
    have eS : Calls Tryz.prog 64 #[.slice (some ⟨b, off, none⟩) k lc] w fun e w' => e = .returned (.int .u32 ((upd 0 (l.take k) : Nat) : Int)) ∧ w' = w := by
      have := kSum_calls (some ⟨b, off, none⟩) lc (l.take k) w (hasB_take hl k) (hb.take k) (by omega)
      rwa [hlk] at this
    have hsl : ∀ wx, (Instr.slice 26 (.slice (some ⟨b, off, none⟩) (k + 4) lc) none (some (.int .i64 (k : Int))) none).run Tryz.prog wx = .ok (.slice (some ⟨b, off, none⟩) k lc) wx := fun wx => slice_uptoB b off (k + 4) lc k (by omega) (by omega) wx
    rw [fits_four hk h0 h1 h2 h3, hk]
    have hs : upd 0 (l.take k) < 4294967296 := upd_lt (by omega) (hb.take k)
    generalize upd 0 (l.take k) = s at *
    clear hl h0 h1 h2 h3 hb hlk
    have i1 : ¬ ((k : Int) + 4 - 4 < 0) := by omega
    by_cases hq : a0 + 256 * a1 + 65536 * a2 + 16777216 * a3 = s
    · obtain ⟨q0, q1, q2, q3⟩ := four_or b0 b1 b2 hq
      rw [decide_eq_true hq]
      clear hq
      go_enter Tryz.func55, Tryz.ntmps55
      go_wp2_with (go_at_call 64; refine eS.mono ?_; rintro e w' ⟨rfl, rfl⟩)
      go_ret
      exact ⟨rfl, Below.refl _ _⟩
    · rw [decide_eq_false hq]
      rcases four_nor b0 b1 b2 hq with q0 | ⟨q0, q1⟩ | ⟨q0, q1, q2⟩ | ⟨q0, q1, q2, q3⟩
      all_goals clear hq
      all_goals go_enter Tryz.func55, Tryz.ntmps55
      all_goals go_wp2_with (go_at_call 64; refine eS.mono ?_; rintro e w' ⟨rfl, rfl⟩)
      all_goals go_ret
      all_goals refine ⟨?_, Below.refl _ _⟩
      all_goals first | rfl | (rw [show (false : Bool) = ((a3 : Int) == (s : Int) / 16777216) from (by simp [q3])]; rfl) | (rw [show (false : Bool) = ((a0 : Int) == (s : Int) % 256) from (by simp [q0])]; rfl)
end Go.Proofs.YtamedcnjanichabGreatDoor

namespace Go.Proofs.YtamedcnjanichabGreatDoor
open Go.RowKit Go.Extern Cr

theorem bown_set {w : World} {B g n cap k : Nat} {L : List Nat} (h : w.ownsRow B 5 1 (.slice (some ⟨g, 0, none⟩) n cap) n (bv L)) (x : Nat) : (w.setCell ⟨g, k, none⟩ (.int .u8 (x : Int))).ownsRow B 5 1 (.slice (some ⟨g, 0, none⟩) n cap) n (bv (L.set k x)) := by
  obtain ⟨h1, h2⟩ := h
  rw [bv_len, Nat.mul_one, Nat.mul_one] at h1
  rcases h2 with ⟨h2, _⟩ | ⟨g', cap', cur, e, hb, hh, hnc, hcm, hcs, ht⟩
  · cases h2
  · injection e with e1 e2 e3
    injection e1 with e1
    injection e1 with e1
    subst e1 e3
    refine ⟨by rw [bv_len, List.length_set, h1], Or.inr ⟨g, cap, cur.setIfInBounds k (.int .u8 (x : Int)), rfl, hb, ?_, hnc, hcm, by simpa using hcs, ?_⟩⟩
    · simp only [World.setCell, Array.getElem?_modify]
      rw [if_pos trivial, hh]
      rfl
    · rw [Nat.mul_one] at ht ⊢
      rw [Array.toList_setIfInBounds, List.take_set, ht]
      simp only [bv, List.map_set]
theorem bown_at {w : World} {B n : Nat} {v : Value} {L : List Nat} (h : w.ownsRow B 5 1 v n (bv L)) (hn : 0 < n) : ∃ g cap, v = .slice (some ⟨g, 0, none⟩) n cap ∧ B ≤ g ∧ g < w.heap.size ∧ (∀ j, w.frozen? ⟨g, j, none⟩ = false) ∧ ∀ (j a : Nat), L[j]? = some a → w.cell? ⟨g, j, none⟩ = some (.int .u8 (a : Int)) := by
  obtain ⟨h1, h2⟩ := h
  have h1' : L.length = n := by rw [bv_len, Nat.mul_one, Nat.mul_one] at h1; exact h1
  rcases h2 with ⟨_, h2⟩ | ⟨g, cap, cur, e, hb, hh, hnc, hcm, hcs, ht⟩
  · omega
  · refine ⟨g, cap, e, hb, b_lt_get hh, fun j => by simp [World.frozen?, hh], fun j a hj => ?_⟩
    have hlt := (List.getElem?_eq_some_iff.1 hj).1
    simp only [World.cell?, hh]
    have : (cur.toList.take (n * 1))[j]? = some (.int .u8 (a : Int)) := by rw [ht]; simp [bv, hj]
    rw [List.getElem?_take] at this
    split at this
    · simpa using this
    · cases this
theorem below_set {B : Nat} {w w' : World} (h : Below B w w') {g : Nat} (hg : B ≤ g) (o : Nat) (x : Value) : Below B w (w'.setCell ⟨g, o, none⟩ x) := by
  refine ⟨h.os, h.tape, h.output, by simpa [World.setCell] using h.size, fun j hj => ?_⟩
  rw [← h.block j hj]
  simp only [World.setCell, Array.getElem?_modify]
  rw [if_neg (by omega)]
end Go.Proofs.YtamedcnjanichabGreatDoor

namespace Go.Proofs.YtamedcnjanichabGreatDoor
open Go.RowKit Go.Extern Cr

attribute [local go_sem] Oper.semAt_some u32_signed u32_max

theorem hasB_new (w : World) (xs : List Nat) (cap : Nat) (fr : Nat × Nat) : HasB (w.alloc (.cells (bv xs).toArray 5 fr)) (.slice (some ⟨w.heap.size, 0, none⟩) xs.length cap) xs := by
  have h : (w.alloc (.cells (bv xs).toArray 5 fr)).heap[w.heap.size]? = some (.cells (bv xs).toArray 5 fr) := by show (w.heap.push _)[w.heap.size]? = _; simp
  generalize w.alloc (.cells (bv xs).toArray 5 fr) = W at h
  refine ⟨_, cap, rfl, fun j x hj => ⟨w.heap.size, 0, rfl, b_lt_get h, ?_⟩⟩
  rw [Nat.zero_add]
  simp only [World.cell?, h]
  simp [bv, hj]
theorem conv_const (w : World) (C : Array Value) (n c : Nat) : (convert 26 26 (.slice (some ⟨w.heap.size, 0, none⟩) n c)).run Tryz.prog (w.alloc (.cells C 5)) = .ok (.slice (some ⟨w.heap.size, 0, none⟩) n c) (w.alloc (.cells C 5 (C.size, C.size + 1))) := Lib.run_convert_bytes_const w 26 5 C n c Tryz.underlying26 Tryz.underlying5
theorem sum_nine : upd 0 [49, 50, 51, 52, 53, 54, 55, 56, 57] = 3421780262 := by kernel_rfl
theorem bts_of {l : List Nat} (h : l.all (· < 256) = true) : Bts l := fun v hv => by
  have := List.all_eq_true.1 h v hv
  simpa using this
theorem own_cap {w : World} {B n cap : Nat} {ao : Option Addr} {xs : List Value} (h : w.ownsRow B 5 1 (.slice ao n cap) n xs) : n ≤ cap ∧ (ao = none → cap = 0) := by
  rcases h.2 with ⟨e, h0⟩ | ⟨g, c, cur, e, _, _, hn, _⟩
  · injection e with e1 e2 e3
    subst e1 e3
    exact ⟨by omega, fun _ => rfl⟩
  · injection e with e1 e2 e3
    subst e1 e3
    exact ⟨hn, fun h => by cases h⟩

/-- what is sealed, with no word on its bytes but that it fits. -/
theorem cSeal_fits (lo : Option Addr) (lc n : Nat) (l : List Nat) (hn : l.length = n) (w : World) (hf : HasFours w) (hg : 1 < w.heap.size) (hl : HasB w (.slice lo l.length lc) l) (hb : Bts l) (hm : l.length + 4 ≤ 140737488355328) (hc : lo = none → lc = 0) :
    Calls Tryz.prog 22 #[.slice lo n lc] w fun e w' => ∃ mo mc S, e = .returned (.slice mo (n + 4) mc) ∧ S = sealOf l ∧ w'.ownsRow w.heap.size 5 1 (.slice mo (n + 4) mc) (n + 4) (bv S) ∧ HasB w' (.slice mo S.length mc) S ∧ S.length = n + 4 ∧ Bts S ∧ fits S = true ∧ Below w.heap.size w w' := by
  subst hn
  refine (cSeal_calls lo lc l w hf hg hl hb hm hc).mono ?_
  rintro e w' ⟨mo, mc, rfl, hown, hb'⟩
  refine ⟨mo, mc, sealOf l, rfl, rfl, hown, ?_, seal_len l, seal_bts hb, seal_fits hb, hb'⟩
  rw [← seal_len l] at hown
  exact hasB_own hown

set_option maxRecDepth 100000 in
set_option maxHeartbeats 1000000 in
theorem nine_calls (w : World) (hf : HasFours (w.alloc (.cells #[.int .u8 49, .int .u8 50, .int .u8 51, .int .u8 52, .int .u8 53, .int .u8 54, .int .u8 55, .int .u8 56, .int .u8 57] 5 (9, 10)))) : Calls Tryz.prog 48 #[.slice (some ⟨w.heap.size, 0, none⟩) 9 9] (w.alloc (.cells #[.int .u8 49, .int .u8 50, .int .u8 51, .int .u8 52, .int .u8 53, .int .u8 54, .int .u8 55, .int .u8 56, .int .u8 57] 5 (9, 10))) fun e w' => e = .returned (.int .u32 3421780262) ∧ w' = w.alloc (.cells #[.int .u8 49, .int .u8 50, .int .u8 51, .int .u8 52, .int .u8 53, .int .u8 54, .int .u8 55, .int .u8 56, .int .u8 57] 5 (9, 10)) := by
  have h := cSum_calls (some ⟨w.heap.size, 0, none⟩) 9 [49, 50, 51, 52, 53, 54, 55, 56, 57] _ hf (hasB_new w [49, 50, 51, 52, 53, 54, 55, 56, 57] 9 (9, 10)) (bts_of rfl) (by decide)
  rw [sum_nine] at h
  exact h
end Go.Proofs.YtamedcnjanichabGreatDoor

namespace Go.Proofs.YtamedcnjanichabGreatDoor
open Go.RowKit Go.Extern Cr

theorem bv_len1 (l : List Nat) : (bv l).length = l.length := by simp [bv]
theorem Tryz.elemO : Tryz.prog.underlying 26 = some (.slice (Tryz.prog.elem 26)) := by kernel_rfl
theorem Tryz.sizeO (w : World) : (sizeOf (Tryz.prog.elem 26)).run Tryz.prog w = .ok 1 w := by kernel_rfl
theorem slice_fromB (b n lc i : Nat) (h : n ≤ lc) (hi : i < n) (w : World) : (Instr.slice 26 (.slice (some ⟨b, 0, none⟩) n lc) (some (.int .i64 (i : Int))) none none).run Tryz.prog w = .ok (.slice (some ⟨b, i, none⟩) (n - i) (lc - i)) w := by
  have e2 : (i : Int).toNat = i := by omega
  rw [run_slice_l (ht := Tryz.elemO) (h0 := by omega) (h1 := by omega), Tryz.sizeO]
  simp only [Result.andThen_ok, sliced, e2]
  rw [if_neg (by omega)]
  show Result.ok (Value.slice (some ((⟨b, 0, none⟩ : Addr).add (i * 1))) (n - i) (lc - i)) w = _
  rw [Addr.add_lit, Nat.zero_add, Nat.mul_one]
/-- room for m more behind n. -/
theorem make_roomB (n m : Nat) (hn : n + m ≤ 140737488355328) : ∃ L : List Value, L.length = n + m ∧ ∀ w : World, (Instr.makeSlice 26 (.int .i64 (n : Int)) (.int .i64 ((n : Int) + (m : Int)))).run Tryz.prog w = .ok (.slice (some ⟨w.heap.size, 0, none⟩) n (n + m)) (w.alloc (.cells L.toArray 5)) := by
  obtain ⟨i0, hi, hz0, hz1, hz2⟩ := infoB
  refine ⟨(madeCells (Value.int .u8 0).cells (n + m)).toList, by simp [madeCells], fun w => ?_⟩
  have h := run_make (P := Tryz.prog) w 26 5 i0 (.int .u8 0) Tryz.underlying26 hi hz0 .i64 .i64 (n : Int) ((n : Int) + (m : Int)) (by omega) (by omega) (by rw [hz2]; omega) (by omega)
  rw [h, hz1, Array.toArray_toList]
  have e1 : (n : Int).toNat = n := by omega
  have e2 : ((n : Int) + (m : Int)).toNat = n + m := by omega
  rw [e1, e2, Nat.mul_one]
theorem bown_copied {w : World} {B g m : Nat} {L : List Value} {xs : List Nat} (h : w.heap[g]? = some (.cells (splice L 0 (bv xs)).toArray 5)) (hl : L.length = xs.length + m) (hm : xs.length + m ≤ 140737488355328) (hB : B ≤ g) :
    w.ownsRow B 5 1 (.slice (some ⟨g, 0, none⟩) xs.length (xs.length + m)) xs.length (bv xs) := by
  have hv := bv_len xs
  refine ⟨hv, .inr ⟨g, xs.length + m, _, rfl, hB, h, by omega, by unfold maxLen; omega, ?_, ?_⟩⟩
  · rw [List.size_toArray, length_splice _ _ _ (by rw [hv]; omega)]
    omega
  · simp [splice, hv]
theorem bown_cut {w : World} {B g n cap m : Nat} {l : List Nat} (h : w.ownsRow B 5 1 (.slice (some ⟨g, 0, none⟩) n cap) n (bv l)) (hm : m ≤ n) : w.ownsRow B 5 1 (.slice (some ⟨g, 0, none⟩) m cap) m (bv (l.take m)) := by
  have hl : l.length = n := by have := h.1; rw [bv_len, Nat.mul_one, Nat.mul_one] at this; exact this
  refine ⟨by rw [bv_len, List.length_take, hl]; congr 1; omega, ?_⟩
  rcases h.2 with ⟨e, _⟩ | ⟨g', cap', cur, e, hb, hh, hle, hmx, hsz, ht⟩
  · cases e
  · cases e
    refine .inr ⟨g, cap, cur, rfl, hb, hh, by omega, hmx, hsz, ?_⟩
    have e2 : cur.toList.take (m * 1) = (cur.toList.take (n * 1)).take m := by rw [List.take_take]; congr 1; omega
    rw [e2, ht]
    simp [bv, List.map_take]
theorem bown_alloc {w : World} {B n : Nat} {v : Value} {xs : List Value} (h : w.ownsRow B 5 1 v n xs) (o : Obj) : (w.alloc o).ownsRow B 5 1 v n xs := bown_keep h fun k hk => Below.heap_alloc _ _ _ (h.lt k hk).2
theorem bbelow_g {w wr w1 : World} {row : Option Nat} (h : Below w.heap.size w wr) (hg : wr.grownBy w1 row) (hr : ∀ k, some k = row → w.heap.size ≤ k) : Below w.heap.size w w1 :=
  h.trans ⟨hg.os, hg.tape, hg.output, hg.size, fun k hk => hg.block k (Nat.lt_of_lt_of_le hk h.size) (fun e => by have := hr k e; omega)⟩
/-- the end of a row, as a list of its own. -/
theorem hasB_end {w : World} {B g n cap m : Nat} {l : List Nat} (h : w.ownsRow B 5 1 (.slice (some ⟨g, 0, none⟩) n cap) n (bv l)) (c : Nat) : HasB w (.slice (some ⟨g, m, none⟩) (l.drop m).length c) (l.drop m) := by
  have hl : l.length = n := by have := h.1; rw [bv_len, Nat.mul_one, Nat.mul_one] at this; exact this
  refine ⟨_, c, rfl, fun j a hj => ⟨g, m, rfl, (h.lt g rfl).2, ?_⟩⟩
  rw [List.getElem?_drop] at hj
  have hlt := (List.getElem?_eq_some_iff.1 hj).1
  rw [h.cellAt (m + j) (by omega)]
  simp [bv, hj]
theorem hasB_src {w wx : World} {lo : Option Addr} {lc : Nat} {l : List Nat} (hb : Below w.heap.size w wx) (h : HasB w (.slice lo l.length lc) l) (h0 : 0 < (bv l).length) : ∃ ad, lo = some ad ∧ ∀ j v, (bv l)[j]? = some v → wx.cell? (ad.add j) = some v := by
  cases lo with
  | none => rw [hasB_nil h] at h0; simp [bv] at h0
  | some ad => exact ⟨ad, rfl, hasB_cells' (h.keep hb)⟩
end Go.Proofs.YtamedcnjanichabGreatDoor
