
/- Plain arithmetic for layer 1: sums, products, quotients that may run over. No code. -/
namespace Go.Proofs.Ytpjglhllbgmbhaa.NumM

def most : Int := 9223372036854775807
def least : Int := -9223372036854775808
/-- does a number lie outside an int64? -/
def outB (x : Int) : Bool := decide (most < x ∨ x < least)
def val (x : Int) : Int := if outB x = true then 0 else x
def err (x : Int) : Int := if outB x = true then 11 else 0
/-- the quotient, up -/
def upQ (a b : Int) : Int := -((-a) / b)

theorem outB_no {x : Int} (h : outB x = false) : -9223372036854775808 ≤ x ∧ x ≤ 9223372036854775807 := by
  unfold outB most least at h; have := of_decide_eq_false h; omega
theorem outB_yes {x : Int} (h : outB x = true) : 9223372036854775807 < x ∨ x < -9223372036854775808 := by
  unfold outB most least at h; exact of_decide_eq_true h
theorem outB_of_in {x : Int} (h : -9223372036854775808 ≤ x ∧ x ≤ 9223372036854775807) : outB x = false := by
  unfold outB most least; exact decide_eq_false (by omega)
theorem outB_of_out {x : Int} (h : 9223372036854775807 < x ∨ x < -9223372036854775808) : outB x = true := by
  unfold outB most least; exact decide_eq_true (by omega)

theorem sum_pos {a b : Int} (h : 0 < b) (ha : -9223372036854775808 ≤ a) : decide (9223372036854775807 - b < a) = outB (a + b) := by
  unfold outB most least; rw [decide_eq_decide]; omega
theorem sum_neg {a b : Int} (h : b ≤ 0) (ha' : a ≤ 9223372036854775807) : decide (a < -9223372036854775808 - b) = outB (a + b) := by
  unfold outB most least; rw [decide_eq_decide]; omega

theorem tdiv_pos (x b : Int) (hx : 0 ≤ x) : x.tdiv b = x / b := Int.tdiv_eq_ediv_of_nonneg hx

theorem lt_mul_of_div {m a b : Int} (hb : 0 < b) : (m / b < a) ↔ (m < a * b) := Int.ediv_lt_iff_lt_mul hb

theorem mul_pp {a b : Int} (ha : 0 < a) (hb : 0 < b) : decide (9223372036854775807 / b < a) = outB (a * b) := by
  have h := Int.mul_pos ha hb
  unfold outB most least; rw [decide_eq_decide, lt_mul_of_div hb]; omega
theorem mul_pn {a b : Int} (ha : 0 < a) (hb : b < 0) : decide (b < (-9223372036854775808 : Int).tdiv a) = outB (a * b) := by
  have h : 0 < a * (-b) := Int.mul_pos ha (by omega)
  have e1 : (-9223372036854775808 : Int).tdiv a = -(9223372036854775808 / a) := by
    rw [show (-9223372036854775808 : Int) = -(9223372036854775808) from rfl, Int.neg_tdiv, tdiv_pos _ _ (by omega)]
  have e2 : (9223372036854775808 / a < -b) ↔ (9223372036854775808 < -b * a) := lt_mul_of_div ha
  have e3 : -b * a = -(a * b) := by rw [Int.neg_mul, Int.mul_comm]
  have e4 : a * (-b) = -(a * b) := Int.mul_neg _ _
  rw [e3] at e2; rw [e4] at h
  unfold outB most least; rw [decide_eq_decide, e1]
  generalize 9223372036854775808 / a = q at *
  generalize a * b = p at *
  omega
theorem mul_np {a b : Int} (ha : a < 0) (hb : 0 < b) : decide (a < (-9223372036854775808 : Int).tdiv b) = outB (a * b) := by
  rw [mul_pn hb ha, Int.mul_comm]
theorem mul_nn {a b : Int} (ha : a < 0) (hb : b < 0) : decide (a < (9223372036854775807 : Int).tdiv b) = outB (a * b) := by
  have h : 0 < (-a) * (-b) := Int.mul_pos (by omega) (by omega)
  have e1 : (9223372036854775807 : Int).tdiv b = -(9223372036854775807 / (-b)) := by
    have : b = -(-b) := by omega
    rw [this, Int.tdiv_neg, tdiv_pos _ _ (by omega)]; simp
  have e2 : (9223372036854775807 / (-b) < -a) ↔ (9223372036854775807 < -a * -b) := lt_mul_of_div (by omega)
  have e3 : -a * -b = a * b := by rw [Int.neg_mul, Int.mul_neg]; omega
  rw [e3] at e2 h
  unfold outB most least; rw [decide_eq_decide, e1]
  generalize 9223372036854775807 / (-b) = q at *
  generalize a * b = p at *
  omega

/-- the number that an int64 keeps of x -/
def wr (x : Int) : Int := (x + 9223372036854775808) % 18446744073709551616 - 9223372036854775808
theorem wr_in {x : Int} (h : outB x = false) : wr x = x := by
  have := outB_no h; unfold wr; omega
theorem wr_bd (x : Int) : -9223372036854775808 ≤ wr x ∧ wr x ≤ 9223372036854775807 := by unfold wr; omega
theorem wr_of (x : Int) : ∃ k : Int, wr x = x - k * 18446744073709551616 := ⟨(x + 9223372036854775808) / 18446744073709551616, by unfold wr; omega⟩

/-- a product that ran over is told by its quotient -/
theorem tells {a b : Int} (hb0 : b ≠ 0) (hb : -9223372036854775808 ≤ b ∧ b ≤ 9223372036854775807) : ((wr (a * b)).tdiv b = a) ↔ outB (a * b) = false := by
  constructor
  · intro h
    apply Bool.eq_false_iff.mpr
    intro ho
    have hh := outB_yes ho
    obtain ⟨k, hk⟩ := wr_of (a * b)
    have hw := wr_bd (a * b)
    have e := Int.mul_tdiv_add_tmod (wr (a * b)) b
    rw [h] at e
    have hr : (Int.tmod (wr (a * b)) b).natAbs < b.natAbs := by
      rw [Int.natAbs_tmod]; exact Nat.mod_lt _ (by omega)
    rw [Int.mul_comm b a] at e
    generalize Int.tmod (wr (a * b)) b = r at *
    generalize a * b = p at *
    generalize wr p = c at *
    omega
  · intro h
    rw [wr_in h]; exact Int.mul_tdiv_cancel _ hb0

theorem tdiv_bd {a b : Int} (hb : 1 ≤ b) (ha : -9223372036854775808 ≤ a ∧ a ≤ 9223372036854775807) : -9223372036854775808 ≤ a.tdiv b ∧ a.tdiv b ≤ 9223372036854775807 := by
  have h : (a.tdiv b).natAbs ≤ a.natAbs := by rw [Int.natAbs_tdiv]; exact Nat.div_le_self _ _
  by_cases h0 : 0 ≤ a
  · rw [tdiv_pos a b h0] at *; have := Int.ediv_nonneg h0 (show 0 ≤ b by omega); omega
  · have e : a = -(-a) := by omega
    have h2 : 0 ≤ (-a) / b := Int.ediv_nonneg (by omega) (by omega)
    have h3 : a.tdiv b = -((-a) / b) := by rw [e, Int.neg_tdiv, tdiv_pos (-a) b (by omega)]; simp
    omega
/-- a quotient of whatever int64 by one that is not 0, but for the least by -1 -/
theorem tdiv_in {a b : Int} (h : ¬ (a = -9223372036854775808 ∧ b = -1)) (ha : -9223372036854775808 ≤ a ∧ a ≤ 9223372036854775807) : wr (a.tdiv b) = a.tdiv b := by
  apply wr_in; apply outB_of_in
  have hn : (a.tdiv b).natAbs ≤ a.natAbs := by rw [Int.natAbs_tdiv]; exact Nat.div_le_self _ _
  by_cases h0 : a = -9223372036854775808
  · by_cases h1 : b = 1
    · subst h1; simp; omega
    · by_cases h2 : b = 0
      · subst h2; simp
      · have hm : (a.tdiv b).natAbs < a.natAbs := by
          rw [Int.natAbs_tdiv]; exact Nat.div_lt_self (by omega) (by omega)
        omega
  · omega
theorem mul_nn' {a b : Int} (ha : a < 0) (hb : b < 0) : decide (a < wr ((9223372036854775807 : Int).tdiv b)) = outB (a * b) := by
  rw [tdiv_in (by omega) (by omega)]; exact mul_nn ha hb
theorem neg_out (b : Int) : -(9223372036854775808 : Int).tdiv b = (-9223372036854775808 : Int).tdiv b := by
  rw [show (-9223372036854775808 : Int) = -(9223372036854775808) from rfl, Int.neg_tdiv]
theorem mul_np' {a b : Int} (ha : a < 0) (hb : 0 < b) : decide (a < wr (-(9223372036854775808 : Int).tdiv b)) = outB (a * b) := by
  rw [neg_out, tdiv_in (by omega) (by omega)]; exact mul_np ha hb
theorem mul_pn' {a b : Int} (ha : 0 < a) (hb : b < 0) : decide (b < wr (-(9223372036854775808 : Int).tdiv a)) = outB (a * b) := by
  rw [neg_out, tdiv_in (by omega) (by omega)]; exact mul_pn ha hb
theorem up_pos {a b : Int} (hb : 1 ≤ b) (h : 0 < a.tmod b) : a.tdiv b + 1 = upQ a b := by
  have ha : 0 ≤ a := by
    by_cases h0 : 0 ≤ a
    · exact h0
    · have : a.tmod b ≤ 0 := by
        have e : a = -(-a) := by omega
        rw [e, Int.neg_tmod]; have := Int.tmod_nonneg b (a := -a) (by omega); omega
      omega
  rw [tdiv_pos a b ha]; rw [Int.tmod_eq_emod_of_nonneg ha] at h
  unfold upQ
  have e := Int.mul_ediv_add_emod a b
  have hl := Int.emod_lt_of_pos a (show 0 < b by omega)
  have : (-a) / b = -(a / b + 1) := by
    rw [Int.ediv_eq_iff_of_pos (by omega)]
    generalize a / b = q at *
    generalize a % b = r at *
    subst e
    constructor
    · rw [Int.neg_mul, Int.add_mul, Int.mul_comm q b]; omega
    · rw [Int.neg_mul, Int.add_mul, Int.mul_comm q b]; omega
  omega
theorem up_neg {a b : Int} (hb : 1 ≤ b) (h : ¬ 0 < a.tmod b) : a.tdiv b = upQ a b := by
  unfold upQ
  by_cases ha : 0 ≤ a
  · rw [tdiv_pos a b ha]; rw [Int.tmod_eq_emod_of_nonneg ha] at h
    have h2 := Int.emod_nonneg a (show b ≠ 0 by omega)
    have h0 : a % b = 0 := by omega
    have hd : b ∣ a := Int.dvd_of_emod_eq_zero h0
    rw [Int.neg_ediv_of_dvd hd]; omega
  · have e : a = -(-a) := by omega
    rw [e, Int.neg_tdiv, tdiv_pos (-a) b (by omega)]; simp
/-- the least number by which the divisor comes to the number at least -/
theorem up_ge {a b : Int} (hb : 1 ≤ b) : a ≤ upQ a b * b := by
  unfold upQ
  have e := Int.mul_ediv_add_emod (-a) b
  have h := Int.emod_nonneg (-a) (show b ≠ 0 by omega)
  rw [Int.neg_mul, Int.mul_comm]; omega
theorem up_lt {a b : Int} (hb : 1 ≤ b) : (upQ a b - 1) * b < a := by
  unfold upQ
  have e := Int.mul_ediv_add_emod (-a) b
  have h := Int.emod_lt_of_pos (-a) (show 0 < b by omega)
  rw [Int.sub_mul, Int.neg_mul, Int.mul_comm]; omega
theorem up_bd {a b : Int} (hb : 1 ≤ b) (ha : -9223372036854775808 ≤ a ∧ a ≤ 9223372036854775807) : -9223372036854775808 ≤ upQ a b ∧ upQ a b ≤ 9223372036854775807 := by
  unfold upQ
  by_cases h : 0 ≤ -a
  · have h1 := Int.ediv_le_self b h
    have h2 := Int.ediv_nonneg h (show 0 ≤ b by omega)
    omega
  · have h1 : (-a) * b ≤ -a := by
      have := Int.mul_le_mul_of_nonpos_left (a := -a) (show -a ≤ 0 by omega) hb
      rw [Int.mul_one] at this; exact this
    have h2 := Int.le_ediv_of_mul_le (show 0 < b by omega) h1
    have h3 : (-a) / b < 0 := Int.ediv_neg_of_neg_of_pos (by omega) (by omega)
    omega
theorem up_pos' {a b : Int} (hb : 1 ≤ b) (ha : -9223372036854775808 ≤ a ∧ a ≤ 9223372036854775807) (h : 0 < a.tmod b) : wr (a.tdiv b + 1) = upQ a b := by
  rw [up_pos hb h]; exact wr_in (outB_of_in (up_bd hb ha))
theorem test_no {a b : Int} (hb0 : b ≠ 0) (hb : -9223372036854775808 ≤ b ∧ b ≤ 9223372036854775807) (hb1 : b ≠ -1) (h : outB (a * b) = false) : (wr ((wr (a * b)).tdiv b) != a) = false := by
  rw [tdiv_in (by omega) (wr_bd _), (tells hb0 hb).mpr h]; simp
theorem test_yes {a b : Int} (hb0 : b ≠ 0) (hb : -9223372036854775808 ≤ b ∧ b ≤ 9223372036854775807) (hb1 : b ≠ -1) (h : outB (a * b) = true) : (wr ((wr (a * b)).tdiv b) != a) = true := by
  rw [tdiv_in (by omega) (wr_bd _)]
  have : ¬ (wr (a * b)).tdiv b = a := fun e => by rw [(tells hb0 hb).mp e] at h; exact Bool.false_ne_true h
  simpa using this
end Go.Proofs.Ytpjglhllbgmbhaa.NumM
