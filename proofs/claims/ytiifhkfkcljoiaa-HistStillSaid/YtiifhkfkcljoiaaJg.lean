/- THE SNAPSHOT OF WHAT WAS RECORDED passes Check; merging two is recording all. No program's walk. -/
import Derived.Test.YtiifhkfkcljoiaaJf
import Derived.Test.YtiifhkfkcljoiaaWl
namespace Go.Proofs.Ytiifhkfkcljoiaa
open Go Go.RowKit
set_option maxRecDepth 100000
section
variable {l h d : Int} {rs r1 r2 : List RecH} {m : Nat}
theorem ix_mono {v w : Int} (r : Sc.rightB l h d = true) (h0 : 0 ≤ v) (h1 : v ≤ w) (h2 : w ≤ h) : ixH l d v ≤ ixH l d w := by
  have := Sc.a_mono r h0 h1 h2
  unfold Sc.aI at this
  unfold ixH
  omega
theorem fI_eq {xs : List Int} {f : Nat} {x : Int} (hx : xs[f]? = some x) (hne : x ≠ 0) (hz : allZ xs f) : fI xs = f := by
  have hlt := lt_of_get hx
  rcases Nat.lt_trichotomy (fI xs) f with a | a | a
  · have hn : fI xs ≠ xs.length := by omega
    obtain ⟨y, hy, hy0⟩ := fI_some hn
    rw [hz _ a] at hy
    exact absurd (Option.some.inj hy).symm hy0
  · exact a
  · have := fI_zero f a
    rw [hx] at this
    exact absurd (Option.some.inj this) hne
theorem gI_eq {xs : List Int} {g : Nat} {y : Int} (hy : xs[g]? = some y) (hne : y ≠ 0) (hz : ∀ j, g < j → j < xs.length → xs[j]? = some 0) : gI xs = g := by
  have hlt := lt_of_get hy
  have hn : fI xs ≠ xs.length := fun e => by
    have := fI_zero (xs := xs) g (by omega)
    rw [hy] at this
    exact hne (Option.some.inj this)
  obtain ⟨z, hz1, hz0, hzz⟩ := gI_some hn
  have h1 := lt_of_get hz1
  rcases Nat.lt_trichotomy (gI xs) g with a | a | a
  · have := hzz g a hlt
    rw [hy] at this
    exact absurd (Option.some.inj this) hne
  · exact a
  · have := hz _ a h1
    rw [hz1] at this
    exact absurd (Option.some.inj this) hz0
theorem cN_whole {f : Nat} (hf : ∀ r ∈ rs, r.i = f) : cN rs f = tN rs := by
  induction rs with
  | nil => rfl
  | cons r t ih =>
    simp only [cN, tN]
    rw [if_pos (hf r (by simp)), ih (fun r hr => hf r (List.mem_cons_of_mem _ hr))]
theorem tN_low (hok : ∀ r ∈ rs, OkR l h d r) : 0 ≤ tN rs := by
  have := cN_low hok 0
  omega
theorem only_one (hok : ∀ r ∈ rs, OkR l h d r) (h1 : tN rs = 1) : ∃ r, rs = [r] ∧ r.n = 1 := by
  match rs, hok, h1 with
  | [], _, h1 => simp [tN] at h1
  | [r], _, h1 => exact ⟨r, rfl, by simpa [tN] using h1⟩
  | r :: q :: t, hok, h1 =>
    have a := (hok r (by simp)).2.2.1
    have b := (hok q (by simp)).2.2.1
    have c := tN_low (fun x hx => hok x (List.mem_cons_of_mem _ (List.mem_cons_of_mem _ hx)))
    simp only [tN] at h1
    omega
theorem wrap_in {x : Int} (h0 : 0 ≤ x) (h1 : x < 18446744073709551616) : IntKind.u64.wrap x = x := by rw [IntKind.wrap_u64]; omega
theorem w64_top : wrap64 18446744073709551615 = -1 := by unfold wrap64; omega
theorem w64_in {x : Int} (h0 : -1 ≤ x) (h1 : x ≤ 2305843009213693953) : wrap64 x = x := by
  unfold wrap64; omega
theorem h_le (r : Sc.rightB l h d = true) : h ≤ 2305843009213693952 := (Sc.right_of r).2.2.2.1
/-- the least and the greatest one of a snapshot -/
theorem shot_ends (r : Sc.rightB l h d = true) (hok : ∀ q ∈ rs, OkR l h d q) :
    (rs = [] ∧ (shotR m rs).le = -1 ∧ (shotR m rs).gr = -1 ∧ loR rs = 18446744073709551615 ∧ hiR rs = 0) ∨
    (rs ≠ [] ∧ (shotR m rs).le = loR rs ∧ (shotR m rs).gr = hiR rs - 1 ∧ 0 ≤ loR rs ∧ loR rs ≤ h ∧ 1 ≤ hiR rs ∧ hiR rs ≤ h + 1 ∧ loR rs + 1 ≤ hiR rs) := by
  have hh := h_le r
  by_cases hn : rs = []
  · subst hn
    exact .inl ⟨rfl, w64_top, by show wrap64 (wrap64 0 - 1) = -1; unfold wrap64; omega, rfl, rfl⟩
  · obtain ⟨p, hp, ep, hpall⟩ := lo_mem hok hn hh
    obtain ⟨q, hq, eq, hqall⟩ := hi_mem hok hn
    obtain ⟨p0, p1, _, _⟩ := hok p hp
    obtain ⟨q0, q1, _, _⟩ := hok q hq
    have h3 := hpall q hq
    have e1 : wrap64 (loR rs) = loR rs := w64_in (by omega) (by omega)
    have e2 : wrap64 (hiR rs) = hiR rs := w64_in (by omega) (by omega)
    have e3 : wrap64 (hiR rs - 1) = hiR rs - 1 := w64_in (by omega) (by omega)
    refine .inr ⟨hn, e1, ?_, by omega, by omega, by omega, by omega, by omega⟩
    show wrap64 (wrap64 (hiR rs) - 1) = _
    rw [e2, e3]
theorem shot_check (r : Sc.rightB l h d = true) (hok : ∀ q ∈ rs, OkR l h d q) (ht : tN rs < 18446744073709551616) : checkS l h d (shotR (Sc.cnt l h d) rs) = 0 := by
  have hi : ∀ q ∈ rs, q.i < Sc.cnt l h d := fun q hq => by
    obtain ⟨a0, a1, _, a3⟩ := hok q hq
    rw [a3]; exact ix_lt r a0 a1
  have hc : (shotR (Sc.cnt l h d) rs).c = sumU (shotR (Sc.cnt l h d) rs).bu := by
    unfold sumU
    show IntKind.u64.wrap (tN rs) = IntKind.u64.wrap ((List.range (Sc.cnt l h d)).map (fun j => IntKind.u64.wrap (cN rs j))).sum
    rw [sum_wrap, sum_all hi]
  have hcn : ∀ j, IntKind.u64.wrap (cN rs j) = cN rs j := fun j => wrap_in (cN_low hok j).1 (by have := (cN_low hok j).2; omega)
  have hg : ∀ j, j < Sc.cnt l h d → (shotR (Sc.cnt l h d) rs).bu[j]? = some (cN rs j) := fun j hj => by rw [shot_get hj, hcn]
  have hl : (shotR (Sc.cnt l h d) rs).bu.length = Sc.cnt l h d := shot_len
  unfold checkS checkP
  rw [if_neg (by rw [r]; decide), if_neg (by simpa using hl), if_neg (by simpa using hc)]
  suffices hf : fitsP l h d (shotR (Sc.cnt l h d) rs).bu (shotR (Sc.cnt l h d) rs).su (shotR (Sc.cnt l h d) rs).le (shotR (Sc.cnt l h d) rs).gr = true from by rw [if_neg (by rw [hf]; decide)]
  unfold fitsP
  rcases shot_ends (m := Sc.cnt l h d) r hok with ⟨hn, e1, e2, _, _⟩ | ⟨hn, e1, e2, l0, l1, g0, g1, lg⟩
  · rw [e1, e2]
    have hz : fI (shotR (Sc.cnt l h d) rs).bu = (shotR (Sc.cnt l h d) rs).bu.length := by
      apply Classical.byContradiction
      intro hne
      obtain ⟨x, hx, hx0⟩ := fI_some hne
      have hlt := lt_of_get hx
      rw [hg _ (by omega)] at hx
      have := Option.some.inj hx
      rw [hn] at this
      exact hx0 this.symm
    rw [if_pos hz]
    have : (shotR (Sc.cnt l h d) rs).su = 0 := by rw [hn]; rfl
    rw [this]
    rfl
  · rw [e1, e2]
    obtain ⟨p, hp, ep, hpall⟩ := lo_mem hok hn (h_le r)
    obtain ⟨q, hq, eq, hqall⟩ := hi_mem hok hn
    obtain ⟨p0, p1, p2, p3⟩ := hok p hp
    obtain ⟨q0, q1, q2, q3⟩ := hok q hq
    have hpn := (cN_one hok hp).2
    have hqn := (cN_one hok hq).2
    have fz : allZ (shotR (Sc.cnt l h d) rs).bu p.i := fun j hj => by
      have := hi p hp
      rw [hg j (by omega), cN_zero (fun x hx he => by
        obtain ⟨x0, x1, _, x3⟩ := hok x hx
        have a := ix_mono r l0 (hpall x hx) x1
        rw [← ep, ← p3, ← x3] at a
        omega)]
    have gz : ∀ j, q.i < j → j < (shotR (Sc.cnt l h d) rs).bu.length → (shotR (Sc.cnt l h d) rs).bu[j]? = some 0 := fun j hj hjl => by
      rw [hg j (by omega), cN_zero (fun x hx he => by
        obtain ⟨x0, x1, _, x3⟩ := hok x hx
        have a := ix_mono (w := q.v) r x0 (by have := hqall x hx; omega) q1
        rw [← q3, ← x3] at a
        omega)]
    have hfx := hg p.i (hi p hp)
    have ef : fI (shotR (Sc.cnt l h d) rs).bu = p.i := fI_eq hfx (by omega) fz
    have eg : gI (shotR (Sc.cnt l h d) rs).bu = q.i := gI_eq (hg q.i (hi q hq)) (by omega) gz
    have hpl := hi p hp
    rw [ef, eg, if_neg (by omega), List.getD_eq_getElem?_getD, hfx]
    unfold fitsB
    have i1 : isInB l h d (loR rs) p.i = true := by
      unfold isInB
      rw [← ep, decide_eq_true p0, decide_eq_true p1, ← p3]
      simp
    have i2 : isInB l h d (hiR rs - 1) q.i = true := by
      unfold isInB
      rw [show hiR rs - 1 = q.v by omega, decide_eq_true q0, decide_eq_true q1, ← q3]
      simp
    rw [i1, i2, decide_eq_true (by omega)]
    simp only [Bool.true_and, Option.getD_some]
    by_cases hone : p.i = q.i ∧ cN rs p.i = 1
    · obtain ⟨a, b⟩ := hone
      have hall : ∀ x ∈ rs, x.i = p.i := fun x hx => by
        obtain ⟨x0, x1, _, x3⟩ := hok x hx
        have c1 := ix_mono r l0 (hpall x hx) x1
        have c2 := ix_mono (w := q.v) r x0 (by have := hqall x hx; omega) q1
        rw [← ep, ← p3, ← x3] at c1
        rw [← q3, ← x3] at c2
        omega
      rw [cN_whole hall] at b
      obtain ⟨x, rfl, hx1⟩ := only_one hok b
      obtain rfl : p = x := by simpa using hp
      have hlo : loR [p] = p.v := by rw [ep]
      have hhi : hiR [p] - 1 = p.v := by have := hqall p (by simp); obtain rfl : q = p := by simpa using hq
                                         omega
      have hsu : (shotR (Sc.cnt l h d) [p]).su = IntKind.u64.wrap p.v := by
        show IntKind.u64.wrap (p.v * p.n + 0) = _
        rw [hx1, Int.mul_one, Int.add_zero]
      rw [hlo, hhi, hsu]
      simp
    · have hb : (p.i == q.i && cN rs p.i == 1) = false := by
        by_cases a : p.i = q.i
        · have b : cN rs p.i ≠ 1 := fun b => hone ⟨a, b⟩
          simp [b]
        · simp [a]
      rw [hb]
      rfl
/-- merging is recording all -/
theorem gs_all (r : Sc.rightB l h d = true) (h1 : ∀ q ∈ r1, OkR l h d q) (h2 : ∀ q ∈ r2, OkR l h d q) : (⟨IntKind.u64.wrap ((shotR m r1).c + (shotR m r2).c), IntKind.u64.wrap ((shotR m r1).su + (shotR m r2).su), lem (shotR m r1).le (shotR m r2).le, max (shotR m r1).gr (shotR m r2).gr, addU (shotR m r1).bu (shotR m r2).bu⟩ : ShotH) = shotR m (r1 ++ r2) := by
  have h12 : ∀ q ∈ r1 ++ r2, OkR l h d q := fun q hq => by
    rcases List.mem_append.1 hq with a | a
    · exact h1 q a
    · exact h2 q a
  have hh := h_le r
  have ec : IntKind.u64.wrap ((shotR m r1).c + (shotR m r2).c) = (shotR m (r1 ++ r2)).c := by
    show IntKind.u64.wrap (IntKind.u64.wrap (tN r1) + IntKind.u64.wrap (tN r2)) = IntKind.u64.wrap (tN (r1 ++ r2))
    rw [add_wrap2, tN_app, Int.add_comm]
  have es : IntKind.u64.wrap ((shotR m r1).su + (shotR m r2).su) = (shotR m (r1 ++ r2)).su := by
    show IntKind.u64.wrap (IntKind.u64.wrap (tS r1) + IntKind.u64.wrap (tS r2)) = IntKind.u64.wrap (tS (r1 ++ r2))
    rw [add_wrap2, tS_app, Int.add_comm]
  have eb : addU (shotR m r1).bu (shotR m r2).bu = (shotR m (r1 ++ r2)).bu := by
    apply List.ext_getElem?
    intro j
    by_cases hj : j < m
    · rw [shot_get hj]
      unfold addU
      rw [List.getElem?_zipWith, shot_get hj, shot_get hj]
      show some (IntKind.u64.wrap (IntKind.u64.wrap (cN r1 j) + IntKind.u64.wrap (cN r2 j))) = _
      rw [add_wrap2, cN_app, Int.add_comm]
    · rw [List.getElem?_eq_none (by simp [addU, shot_len]; omega), List.getElem?_eq_none (by rw [shot_len]; omega)]
  have e1 := shot_ends (m := m) r h1
  have e2 := shot_ends (m := m) r h2
  have e3 := shot_ends (m := m) r h12
  have la := loR_app (r1 := r1) (r2 := r2)
  have ha := hiR_app (r1 := r1) (r2 := r2)
  have el : lem (shotR m r1).le (shotR m r2).le = (shotR m (r1 ++ r2)).le := by
    unfold lem
    rcases e3 with ⟨hn, a, b, c, d⟩ | ⟨hn, a, b, c⟩
    · have n1 : r1 = [] := by simp at hn; exact hn.1
      have n2 : r2 = [] := by simp at hn; exact hn.2
      subst n1 n2
      rcases e1 with ⟨_, x, _⟩ | ⟨x, _⟩
      · rcases e2 with ⟨_, y, _⟩ | ⟨y, _⟩
        · rw [x, a]; split <;> rfl
        · exact absurd rfl y
      · exact absurd rfl x
    · rcases e1 with ⟨_, x1, _, x2, _⟩ | ⟨_, x1, _, x2⟩ <;> rcases e2 with ⟨_, y1, _, y2, _⟩ | ⟨_, y1, _, y2⟩ <;> rw [x1, y1, a] <;> split <;> omega
  have eg : max (shotR m r1).gr (shotR m r2).gr = (shotR m (r1 ++ r2)).gr := by
    rcases e3 with ⟨hn, a, b, c, d⟩ | ⟨hn, a, b, c⟩
    · have n1 : r1 = [] := by simp at hn; exact hn.1
      have n2 : r2 = [] := by simp at hn; exact hn.2
      subst n1 n2
      rcases e1 with ⟨_, _, x, _⟩ | ⟨x, _⟩
      · rw [x, b]; rfl
      · exact absurd rfl x
    · rcases e1 with ⟨_, _, x1, _, x2⟩ | ⟨_, _, x1, x2⟩ <;> rcases e2 with ⟨_, _, y1, _, y2⟩ | ⟨_, _, y1, y2⟩ <;> rw [x1, y1, b] <;> omega
  rw [ec, es, el, eg, eb]
theorem shot_comm : shotR m (r1 ++ r2) = shotR m (r2 ++ r1) := by
  unfold shotR
  rw [tN_app, tN_app, tS_app, tS_app, loR_app, loR_app, hiR_app, hiR_app, Int.add_comm (tN r1), Int.add_comm (tS r1), Int.min_comm (loR r1), Int.max_comm (hiR r1)]
  congr 1
  apply List.map_congr_left
  intro j _
  rw [cN_app, cN_app, Int.add_comm]
end
end Go.Proofs.Ytiifhkfkcljoiaa
