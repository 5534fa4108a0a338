/-
  A stable sort: the order by what stands there, then by which was first; merging two sorted rows in place; one such order alone.
-/
import Derived.Handy
namespace Go.Proofs.Ytfijkbgbhaoilaa
set_option linter.unusedVariables false
set_option linter.unusedSimpArgs false

/-- A strict weak order. -/
structure Weak {α : Type} (lt : α → α → Bool) : Prop where
  irr : ∀ x, lt x x = false
  tr : ∀ x y z, lt x y = true → lt y z = true → lt x z = true
  neg : ∀ x y z, lt x y = false → lt y z = false → lt x z = false

section
variable {α : Type} {lt : α → α → Bool} {F : Nat → α}

/-- The x-th stands ahead of the y-th one. -/
def pre (lt : α → α → Bool) (F : Nat → α) (x y : Nat) : Prop := lt (F x) (F y) = true ∨ (lt (F y) (F x) = false ∧ x < y)
theorem Weak.asym (K : Weak lt) (x y : α) (h : lt x y = true) : lt y x = false := by
  cases e : lt y x
  · rfl
  · have := K.tr x y x h e
    rw [K.irr] at this
    cases this
theorem pre_irr (K : Weak lt) (x : Nat) : ¬ pre lt F x x := by
  rintro (h | ⟨_, h⟩)
  · rw [K.irr] at h; cases h
  · omega
theorem pre_trans (K : Weak lt) {x y z : Nat} (h : pre lt F x y) (k : pre lt F y z) : pre lt F x z := by
  rcases h with h | ⟨h, h'⟩ <;> rcases k with k | ⟨k, k'⟩
  · exact .inl (K.tr _ _ _ h k)
  · refine .inl ?_
    cases e : lt (F x) (F z)
    · rw [K.neg _ _ _ e k] at h; cases h
    · rfl
  · refine .inl ?_
    cases e : lt (F x) (F z)
    · rw [K.neg _ _ _ h e] at k; cases k
    · rfl
  · exact .inr ⟨K.neg _ _ _ k h, by omega⟩
theorem pre_asym (K : Weak lt) {x y : Nat} (h : pre lt F x y) (k : pre lt F y x) : False := pre_irr K x (pre_trans K h k)
/-- Of two of which the first was first. -/
theorem pre_of_ge {x y : Nat} (hxy : x < y) (h : lt (F y) (F x) = false) : pre lt F x y := .inr ⟨h, hxy⟩
theorem pre_of_lt {x y : Nat} (h : lt (F y) (F x) = true) : pre lt F y x := .inl h
theorem ge_of_pre (K : Weak lt) {x y : Nat} (h : pre lt F x y) : lt (F y) (F x) = false := by
  rcases h with h | ⟨h, _⟩
  · exact K.asym _ _ h
  · exact h

/-- From a to b all rise. -/
def Srt (lt : α → α → Bool) (F : Nat → α) (g : Nat → Nat) (a b : Nat) : Prop := ∀ i j, a ≤ i → i < j → j < b → pre lt F (g i) (g j)
theorem Srt.sub {g : Nat → Nat} {a b c d : Nat} (h : Srt lt F g a b) (hc : a ≤ c) (hd : d ≤ b) : Srt lt F g c d := fun i j h1 h2 h3 => h i j (by omega) h2 (by omega)
theorem Srt.le (K : Weak lt) {g : Nat → Nat} {a b : Nat} (h : Srt lt F g a b) {i j : Nat} (h1 : a ≤ i) (h2 : i ≤ j) (h3 : j < b) : i = j ∨ pre lt F (g i) (g j) := by
  by_cases e : i = j
  · exact .inl e
  · exact .inr (h i j h1 (by omega) h3)
/-- All from a to m were ahead of all from m to b. -/
def Fst (g : Nat → Nat) (a m b : Nat) : Prop := ∀ i j, a ≤ i → i < m → m ≤ j → j < b → g i < g j
/-- From a to b stand none but those that stood there; elsewhere nothing is other. -/
structure Mv (g h : Nat → Nat) (a b : Nat) : Prop where
  img : ∀ i, a ≤ i → i < b → ∃ j, a ≤ j ∧ j < b ∧ h i = g j
  out : ∀ i, (i < a ∨ b ≤ i) → h i = g i
theorem Mv.refl (g : Nat → Nat) (a b : Nat) : Mv g g a b := ⟨fun i h1 h2 => ⟨i, h1, h2, rfl⟩, fun _ _ => rfl⟩
theorem Mv.trans {g h k : Nat → Nat} {a b : Nat} (x : Mv g h a b) (y : Mv h k a b) : Mv g k a b := by
  refine ⟨fun i h1 h2 => ?_, fun i hi => (y.out i hi).trans (x.out i hi)⟩
  obtain ⟨j, j1, j2, e⟩ := y.img i h1 h2
  obtain ⟨l, l1, l2, e'⟩ := x.img j j1 j2
  exact ⟨l, l1, l2, e.trans e'⟩
theorem Mv.wide {g h : Nat → Nat} {a b c d : Nat} (x : Mv g h a b) (hc : c ≤ a) (hd : b ≤ d) : Mv g h c d := by
  refine ⟨fun i h1 h2 => ?_, fun i hi => x.out i (by omega)⟩
  by_cases hin : a ≤ i ∧ i < b
  · obtain ⟨j, j1, j2, e⟩ := x.img i hin.1 hin.2
    exact ⟨j, by omega, by omega, e⟩
  · exact ⟨i, h1, h2, x.out i (by omega)⟩
theorem Srt.mv {g h : Nat → Nat} {a b c d : Nat} (s : Srt lt F g c d) (x : Mv g h a b) (hd : d ≤ a ∨ b ≤ c) : Srt lt F h c d := fun i j h1 h2 h3 => by
  rw [x.out i (by omega), x.out j (by omega)]
  exact s i j h1 h2 h3

/-- Two change their places. -/
def swp2 (g : Nat → Nat) (i k : Nat) : Nat → Nat := fun x => if x = i then g k else if x = k then g i else g x
theorem swp2_l (g : Nat → Nat) (i k : Nat) : swp2 g i k i = g k := by simp [swp2]
theorem swp2_r (g : Nat → Nat) (i k : Nat) : swp2 g i k k = g i := by
  unfold swp2
  split
  · rename_i h; rw [h]
  · simp
theorem swp2_o (g : Nat → Nat) (i k x : Nat) (h1 : x ≠ i) (h2 : x ≠ k) : swp2 g i k x = g x := by simp [swp2, h1, h2]
theorem Mv.swp (g : Nat → Nat) {a b i k : Nat} (h1 : a ≤ i) (h2 : i < b) (h3 : a ≤ k) (h4 : k < b) : Mv g (swp2 g i k) a b := by
  refine ⟨fun x x1 x2 => ?_, fun x hx => swp2_o g i k x (by omega) (by omega)⟩
  by_cases e : x = i
  · exact ⟨k, h3, h4, by rw [e, swp2_l]⟩
  · by_cases e2 : x = k
    · exact ⟨i, h1, h2, by rw [e2, swp2_r]⟩
    · exact ⟨x, x1, x2, swp2_o g i k x e e2⟩

/-- The insertion: the one at j goes down among those ahead of it. -/
structure Sink (lt : α → α → Bool) (F : Nat → α) (g : Nat → Nat) (a j i : Nat) : Prop where
  lo : Srt lt F g a j
  hi : Srt lt F g j (i + 1)
  part : ∀ x y, a ≤ x → x < j → j < y → y ≤ i → pre lt F (g x) (g y)
  last : ∀ x, a ≤ x → x ≤ i → x ≠ j → g x < g j
theorem Sink.start {g : Nat → Nat} {a i : Nat} (s : Srt lt F g a i) (h : ∀ x, a ≤ x → x < i → g x < g i) : Sink lt F g a i i :=
  ⟨s, fun x y h1 h2 h3 => by omega, fun x y h1 h2 h3 h4 => by omega, fun x h1 h2 h3 => h x h1 (by omega)⟩
theorem Sink.step (K : Weak lt) {g : Nat → Nat} {a j i : Nat} (s : Sink lt F g a j i) (hj : a < j) (hji : j ≤ i) (h : lt (F (g j)) (F (g (j - 1))) = true) : Sink lt F (swp2 g j (j - 1)) a (j - 1) i := by
  have hp : pre lt F (g j) (g (j - 1)) := .inl h
  have o : ∀ x, x ≠ j → x ≠ j - 1 → swp2 g j (j - 1) x = g x := fun x h1 h2 => swp2_o g j (j - 1) x h1 h2
  refine ⟨fun x y h1 h2 h3 => ?_, fun x y h1 h2 h3 => ?_, fun x y h1 h2 h3 h4 => ?_, fun x h1 h2 h3 => ?_⟩
  · rw [o x (by omega) (by omega), o y (by omega) (by omega)]
    exact s.lo x y h1 h2 (by omega)
  · by_cases e : x = j - 1
    · subst e
      rw [swp2_r]
      by_cases e2 : y = j
      · subst e2; rw [swp2_l]; exact hp
      · rw [o y e2 (by omega)]
        exact s.hi j y (Nat.le_refl _) (by omega) h3
    · by_cases e2 : x = j
      · subst e2
        rw [swp2_l, o y (by omega) (by omega)]
        exact s.part (x - 1) y (by omega) (by omega) h2 (by omega)
      · rw [o x e2 e, o y (by omega) (by omega)]
        exact s.hi x y (by omega) h2 h3
  · rw [o x (by omega) (by omega)]
    by_cases e2 : y = j
    · subst e2; rw [swp2_l]; exact s.lo x (y - 1) h1 h2 (by omega)
    · rw [o y e2 (by omega)]
      exact s.part x y h1 (by omega) (by omega) h4
  · rw [swp2_r]
    by_cases e : x = j
    · subst e; rw [swp2_l]; exact s.last (x - 1) (by omega) (by omega) (by omega)
    · rw [o x e h3]
      exact s.last x h1 h2 e
theorem Sink.stop (K : Weak lt) {g : Nat → Nat} {a j i : Nat} (s : Sink lt F g a j i) (hji : j ≤ i) (h : j = a ∨ a < j ∧ lt (F (g j)) (F (g (j - 1))) = false) : Srt lt F g a (i + 1) := by
  have hj : ∀ x, a ≤ x → x < j → pre lt F (g x) (g j) := by
    intro x h1 h2
    rcases h with h | ⟨h, h'⟩
    · omega
    · have hp : pre lt F (g (j - 1)) (g j) := pre_of_ge (s.last (j - 1) (by omega) (by omega) (by omega)) h'
      rcases Srt.le K s.lo h1 (show x ≤ j - 1 by omega) (by omega) with e | e
      · rw [e]; exact hp
      · exact pre_trans K e hp
  intro x y h1 h2 h3
  by_cases hy : y < j
  · exact s.lo x y h1 h2 hy
  · by_cases hx : x < j
    · by_cases e : y = j
      · rw [e]; exact hj x h1 hx
      · exact s.part x y h1 hx (by omega) (by omega)
    · exact s.hi x y (by omega) h2 h3

/-- The rows [a, m) and [m, b) change their places. -/
structure Rot (g h : Nat → Nat) (a m b : Nat) : Prop where
  lo : ∀ x, a ≤ x → x < a + (b - m) → h x = g (m + (x - a))
  hi : ∀ x, a + (b - m) ≤ x → x < b → h x = g (a + (x - (a + (b - m))))
  out : ∀ x, (x < a ∨ b ≤ x) → h x = g x
theorem Rot.none (g : Nat → Nat) {a m b : Nat} (h1 : a ≤ m) (h2 : m ≤ b) (h : m = a ∨ b = m) : Rot g g a m b := by
  refine ⟨fun x x1 x2 => ?_, fun x x1 x2 => ?_, fun _ _ => rfl⟩
  · congr 1; omega
  · congr 1; omega
theorem Rot.mv {g h : Nat → Nat} {a m b : Nat} (h1 : a ≤ m) (h2 : m ≤ b) (r : Rot g h a m b) : Mv g h a b := by
  refine ⟨fun x x1 x2 => ?_, r.out⟩
  by_cases e : x < a + (b - m)
  · exact ⟨_, by omega, by omega, r.lo x x1 e⟩
  · exact ⟨_, by omega, by omega, r.hi x (by omega) x2⟩

/-- Where two sorted rows are cut, for a merge in place: start ¦ stop. -/
structure CutAt (lt : α → α → Bool) (F : Nat → α) (g : Nat → Nat) (a m b mid start stop : Nat) : Prop where
  sum : start + stop = mid + m
  a_le : a ≤ start
  s_m : start ≤ m
  m_e : m ≤ stop
  e_b : stop ≤ b
  s_mid : start ≤ mid
  mid_e : mid ≤ stop
  below : ∀ x y, a ≤ x → x < start → stop ≤ y → y < b → pre lt F (g x) (g y)
  above : ∀ x y, start ≤ x → x < m → m ≤ y → y < stop → pre lt F (g y) (g x)
theorem cut_at (K : Weak lt) {g : Nat → Nat} {a m b mid lo hi start : Nat} (ham : a < m) (hmb : m < b) (hmid : mid = (a + b) / 2) (s1 : Srt lt F g a m) (s2 : Srt lt F g m b) (f : Fst g a m b)
    (hlh : mid < m ∧ lo = mid + m - b ∧ hi = mid ∨ m ≤ mid ∧ lo = a ∧ hi = m) (h1 : lo ≤ start) (h2 : start ≤ hi)
    (hb : start = lo ∨ lt (F (g (mid + m - 1 - (start - 1)))) (F (g (start - 1))) = false) (ht : start = hi ∨ lt (F (g (mid + m - 1 - start))) (F (g start)) = true) :
    CutAt lt F g a m b mid start (mid + m - start) := by
  refine ⟨by omega, by omega, by omega, by omega, by omega, by omega, by omega, fun x y x1 x2 y1 y2 => ?_, fun x y x1 x2 y1 y2 => ?_⟩
  · have hs : start ≠ lo := by omega
    have hp : pre lt F (g (start - 1)) (g (mid + m - start)) := by
      have h := hb.resolve_left hs
      rw [show mid + m - 1 - (start - 1) = mid + m - start by omega] at h
      exact pre_of_ge (f _ _ (by omega) (by omega) (by omega) (by omega)) h
    have p1 : pre lt F (g x) (g (mid + m - start)) := by
      rcases Srt.le K s1 x1 (show x ≤ start - 1 by omega) (by omega) with e | e
      · rw [e]; exact hp
      · exact pre_trans K e hp
    rcases Srt.le K s2 (show m ≤ mid + m - start by omega) y1 y2 with e | e
    · rw [← e]; exact p1
    · exact pre_trans K p1 e
  · have hs : start ≠ hi := by omega
    have hp : pre lt F (g (mid + m - 1 - start)) (g start) := pre_of_lt (ht.resolve_left hs)
    have p1 : pre lt F (g (mid + m - 1 - start)) (g x) := by
      rcases Srt.le K s1 (show a ≤ start by omega) x1 x2 with e | e
      · rw [← e]; exact hp
      · exact pre_trans K hp e
    rcases Srt.le K s2 y1 (show y ≤ mid + m - 1 - start by omega) (by omega) with e | e
    · rw [e]; exact p1
    · exact pre_trans K e p1
/-- The order at which the search looks is one that ends. -/
theorem cut_mono (K : Weak lt) {g : Nat → Nat} {a m b p c d : Nat} (s1 : Srt lt F g a m) (s2 : Srt lt F g m b) (f : Fst g a m b) (hc : a ≤ c) (hcd : c ≤ d) (hd : d < m) (hp : m ≤ p - d) (hp2 : p - c < b) (hdp : d ≤ p)
    (h : lt (F (g (p - d))) (F (g d)) = false) : lt (F (g (p - c))) (F (g c)) = false := by
  have hp1 : pre lt F (g d) (g (p - d)) := pre_of_ge (f _ _ (by omega) hd hp (by omega)) h
  have p1 : pre lt F (g c) (g (p - d)) := by
    rcases Srt.le K s1 hc hcd hd with e | e
    · rw [e]; exact hp1
    · exact pre_trans K e hp1
  have p2 : pre lt F (g c) (g (p - c)) := by
    rcases Srt.le K s2 hp (show p - d ≤ p - c by omega) hp2 with e | e
    · rw [← e]; exact p1
    · exact pre_trans K p1 e
  exact ge_of_pre K p2

/-- What the two merges within begin with. -/
theorem rot_parts (K : Weak lt) {g h : Nat → Nat} {a m b mid s e : Nat} (s1 : Srt lt F g a m) (s2 : Srt lt F g m b) (f : Fst g a m b) (c : CutAt lt F g a m b mid s e) (r : Rot g h s m e) :
    (Srt lt F h a s ∧ Srt lt F h s mid ∧ Fst h a s mid) ∧ (Srt lt F h mid e ∧ Srt lt F h e b ∧ Fst h mid e b) ∧ ∀ x y, a ≤ x → x < mid → mid ≤ y → y < b → pre lt F (h x) (h y) := by
  obtain ⟨k1, k2, k3, k4, k5, k6, k7, kb, ka⟩ := c
  have l1 : ∀ x, x < s → h x = g x := fun x hx => r.out x (.inl hx)
  have l2 : ∀ x, s ≤ x → x < mid → h x = g (m + (x - s)) := fun x h1 h2 => r.lo x h1 (by omega)
  have l3 : ∀ x, mid ≤ x → x < e → h x = g (s + (x - mid)) := fun x h1 h2 => by
    rw [r.hi x (by omega) h2]
    congr 1; omega
  have l4 : ∀ x, e ≤ x → h x = g x := fun x hx => r.out x (.inr hx)
  refine ⟨⟨fun x y x1 x2 x3 => ?_, fun x y x1 x2 x3 => ?_, fun x y x1 x2 y1 y2 => ?_⟩, ⟨fun x y x1 x2 x3 => ?_, fun x y x1 x2 x3 => ?_, fun x y x1 x2 y1 y2 => ?_⟩, fun x y x1 x2 y1 y2 => ?_⟩
  · rw [l1 x (by omega), l1 y x3]; exact s1 x y x1 x2 (by omega)
  · rw [l2 x x1 (by omega), l2 y (by omega) x3]; exact s2 _ _ (by omega) (by omega) (by omega)
  · rw [l1 x x2, l2 y y1 y2]; exact f _ _ x1 (by omega) (by omega) (by omega)
  · rw [l3 x x1 (by omega), l3 y (by omega) x3]; exact s1 _ _ (by omega) (by omega) (by omega)
  · rw [l4 x x1, l4 y (by omega)]; exact s2 x y (by omega) x2 x3
  · rw [l3 x x1 x2, l4 y y1]; exact f _ _ (by omega) (by omega) (by omega) y2
  · by_cases hx : x < s
    · rw [l1 x hx]
      by_cases hy : y < e
      · rw [l3 y y1 hy]; exact s1 _ _ x1 (by omega) (by omega)
      · rw [l4 y (by omega)]; exact kb x y x1 hx (by omega) y2
    · rw [l2 x (by omega) x2]
      by_cases hy : y < e
      · rw [l3 y y1 hy]; exact ka _ _ (by omega) (by omega) (by omega) (by omega)
      · rw [l4 y (by omega)]; exact s2 _ _ (by omega) (by omega) y2
theorem merge_done {g h k : Nat → Nat} {a mid b : Nat} (h1 : a ≤ mid) (h2 : mid ≤ b) (hx : ∀ x y, a ≤ x → x < mid → mid ≤ y → y < b → pre lt F (g x) (g y)) (m1 : Mv g h a mid) (s1 : Srt lt F h a mid) (m2 : Mv h k mid b) (s2 : Srt lt F k mid b) :
    Srt lt F k a b ∧ Mv g k a b := by
  refine ⟨fun x y x1 x2 x3 => ?_, (m1.wide (Nat.le_refl _) h2).trans (m2.wide h1 (Nat.le_refl _))⟩
  by_cases hy : y < mid
  · rw [m2.out x (by omega), m2.out y (by omega)]; exact s1 x y x1 x2 hy
  · by_cases hxm : x < mid
    · rw [m2.out x (by omega)]
      obtain ⟨u, u1, u2, eu⟩ := m1.img x x1 hxm
      obtain ⟨v, v1, v2, ev⟩ := m2.img y (by omega) x3
      rw [eu, ev, m1.out v (by omega)]
      exact hx u v u1 u2 v1 v2
    · exact s2 x y (by omega) x2 x3
theorem Fst.mv {g h : Nat → Nat} {a m b c d : Nat} (f : Fst g a m b) (x : Mv g h c d) (hc : d ≤ a ∨ b ≤ c) : Fst h a m b := fun i j h1 h2 h3 h4 => by
  rw [x.out i (by omega), x.out j (by omega)]
  exact f i j h1 h2 h3 h4

/-- One goes up among those behind it: [a, i) moves on by one. -/
theorem one_up (K : Weak lt) {g h : Nat → Nat} {a m b i : Nat} (hm : m = a + 1) (hmb : m ≤ b) (s2 : Srt lt F g m b) (f : Fst g a m b) (hi1 : m ≤ i) (hi2 : i ≤ b)
    (hlo : i = m ∨ lt (F (g (i - 1))) (F (g a)) = true) (hhi : i = b ∨ lt (F (g i)) (F (g a)) = false) (r : Rot g h a m i) : Srt lt F h a b ∧ Mv g h a b := by
  have l1 : ∀ x, a ≤ x → x < i - 1 → h x = g (x + 1) := fun x h1 h2 => by
    rw [r.lo x h1 (by omega)]; congr 1; omega
  have l2 : h (i - 1) = g a := by
    rw [r.hi (i - 1) (by omega) (by omega)]; congr 1; omega
  have l3 : ∀ x, i ≤ x → h x = g x := fun x hx => r.out x (.inr hx)
  refine ⟨fun x y x1 x2 x3 => ?_, (r.mv (by omega) hi1).wide (Nat.le_refl _) hi2⟩
  have below : ∀ z, m ≤ z → z < i → pre lt F (g z) (g a) := fun z z1 z2 => by
    have hp : pre lt F (g (i - 1)) (g a) := .inl (hlo.resolve_left (by omega))
    rcases Srt.le K s2 z1 (show z ≤ i - 1 by omega) (by omega) with e | e
    · rw [e]; exact hp
    · exact pre_trans K e hp
  have above : ∀ z, i ≤ z → z < b → pre lt F (g a) (g z) := fun z z1 z2 => by
    have hp : pre lt F (g a) (g i) := pre_of_ge (f _ _ (Nat.le_refl _) (by omega) hi1 (by omega)) (hhi.resolve_left (by omega))
    rcases Srt.le K s2 hi1 z1 z2 with e | e
    · rw [← e]; exact hp
    · exact pre_trans K hp e
  by_cases hy : y < i - 1
  · rw [l1 x x1 (by omega), l1 y (by omega) hy]; exact s2 _ _ (by omega) (by omega) (by omega)
  · by_cases hy2 : y = i - 1
    · rw [hy2, l2, l1 x x1 (by omega)]; exact below _ (by omega) (by omega)
    · rw [l3 y (by omega)]
      by_cases hx : x < i - 1
      · rw [l1 x x1 hx]; exact s2 _ _ (by omega) (by omega) x3
      · by_cases hx2 : x = i - 1
        · rw [hx2, l2]; exact above y (by omega) x3
        · rw [l3 x (by omega)]; exact s2 _ _ (by omega) x2 x3
theorem one_down (K : Weak lt) {g h : Nat → Nat} {a m b i : Nat} (hb : b = m + 1) (ham : a ≤ m) (s1 : Srt lt F g a m) (f : Fst g a m b) (hi1 : a ≤ i) (hi2 : i ≤ m)
    (hlo : i = a ∨ lt (F (g m)) (F (g (i - 1))) = false) (hhi : i = m ∨ lt (F (g m)) (F (g i)) = true) (r : Rot g h i m b) : Srt lt F h a b ∧ Mv g h a b := by
  have l1 : ∀ x, x < i → h x = g x := fun x hx => r.out x (.inl hx)
  have l2 : h i = g m := by
    rw [r.lo i (Nat.le_refl _) (by omega)]; congr 1; omega
  have l3 : ∀ x, i < x → x < b → h x = g (x - 1) := fun x h1 h2 => by
    rw [r.hi x (by omega) h2]; congr 1; omega
  refine ⟨fun x y x1 x2 x3 => ?_, (r.mv hi2 (by omega)).wide hi1 (Nat.le_refl _)⟩
  have below : ∀ z, a ≤ z → z < i → pre lt F (g z) (g m) := fun z z1 z2 => by
    have hp : pre lt F (g (i - 1)) (g m) := pre_of_ge (f _ _ (by omega) (by omega) (Nat.le_refl _) (by omega)) (hlo.resolve_left (by omega))
    rcases Srt.le K s1 z1 (show z ≤ i - 1 by omega) (by omega) with e | e
    · rw [e]; exact hp
    · exact pre_trans K e hp
  have above : ∀ z, i ≤ z → z < m → pre lt F (g m) (g z) := fun z z1 z2 => by
    have hp : pre lt F (g m) (g i) := .inl (hhi.resolve_left (by omega))
    rcases Srt.le K s1 hi1 z1 z2 with e | e
    · rw [← e]; exact hp
    · exact pre_trans K hp e
  by_cases hy : y < i
  · rw [l1 x (by omega), l1 y hy]; exact s1 _ _ x1 x2 (by omega)
  · by_cases hy2 : y = i
    · rw [hy2, l2, l1 x (by omega)]; exact below _ x1 (by omega)
    · rw [l3 y (by omega) x3]
      by_cases hx : x < i
      · rw [l1 x hx]; exact s1 _ _ x1 (by omega) (by omega)
      · by_cases hx2 : x = i
        · rw [hx2, l2]; exact above _ (by omega) (by omega)
        · rw [l3 x (by omega) (by omega)]; exact s1 _ _ (by omega) (by omega) (by omega)
/-- Places move on one by one: what is done of a turn by one. -/
theorem Rot.up {g h : Nat → Nat} {a k : Nat} (hk : a ≤ k) (r : Rot g h a (a + 1) (k + 1)) : Rot g (swp2 h k (k + 1)) a (a + 1) (k + 2) := by
  refine ⟨fun x x1 x2 => ?_, fun x x1 x2 => ?_, fun x hx => ?_⟩
  · by_cases e : x = k
    · subst e
      rw [swp2_l, r.out _ (by omega)]
      congr 1; omega
    · rw [swp2_o _ _ _ _ e (by omega), r.lo x x1 (by omega)]
  · have e : x = k + 1 := by omega
    subst e
    rw [swp2_r, r.hi k (by omega) (by omega)]
    congr 1; omega
  · rw [swp2_o _ _ _ _ (by omega) (by omega), r.out x (by omega)]
theorem Rot.down {g h : Nat → Nat} {m k : Nat} (hk : 0 < k) (hkm : k ≤ m) (r : Rot g h k m (m + 1)) : Rot g (swp2 h k (k - 1)) (k - 1) m (m + 1) := by
  refine ⟨fun x x1 x2 => ?_, fun x x1 x2 => ?_, fun x hx => ?_⟩
  · have e : x = k - 1 := by omega
    subst e
    rw [swp2_r, r.lo k (by omega) (by omega)]
    congr 1; omega
  · by_cases e : x = k
    · subst e
      rw [swp2_l, r.out _ (by omega)]
      congr 1; omega
    · rw [swp2_o _ _ _ _ e (by omega), r.hi x (by omega) (by omega)]
      congr 1; omega
  · rw [swp2_o _ _ _ _ (by omega) (by omega), r.out x (by omega)]

/-- Two rows of n change their places. -/
structure Swr (g h : Nat → Nat) (a b n : Nat) : Prop where
  lo : ∀ x, x < n → h (a + x) = g (b + x)
  hi : ∀ x, x < n → h (b + x) = g (a + x)
  out : ∀ x, (x < a ∨ a + n ≤ x) → (x < b ∨ b + n ≤ x) → h x = g x
theorem Swr.zero (g : Nat → Nat) (a b : Nat) : Swr g g a b 0 := ⟨fun x h => absurd h (Nat.not_lt_zero _), fun x h => absurd h (Nat.not_lt_zero _), fun _ _ _ => rfl⟩
theorem Swr.step {g h : Nat → Nat} {a b k n : Nat} (hab : a + n ≤ b) (hk : k < n) (r : Swr g h a b k) : Swr g (swp2 h (a + k) (b + k)) a b (k + 1) := by
  refine ⟨fun x hx => ?_, fun x hx => ?_, fun x h1 h2 => ?_⟩
  · by_cases e : x = k
    · subst e; rw [swp2_l, r.out _ (by omega) (by omega)]
    · rw [swp2_o _ _ _ _ (by omega) (by omega), r.lo x (by omega)]
  · by_cases e : x = k
    · subst e; rw [swp2_r, r.out _ (by omega) (by omega)]
    · rw [swp2_o _ _ _ _ (by omega) (by omega), r.hi x (by omega)]
  · rw [swp2_o _ _ _ _ (by omega) (by omega), r.out x (by omega) (by omega)]
/-- What is left to be turned. -/
theorem rot_left {h k t : Nat → Nat} {m i j : Nat} (hj : 0 < j) (hij : j < i) (him : i ≤ m) (w : Swr h k (m - i) m j) (ht : Rot k t (m - (i - j)) m (m + j)) : Rot h t (m - i) m (m + j) := by
  refine ⟨fun x x1 x2 => ?_, fun x x1 x2 => ?_, fun x hx => ?_⟩
  · have e : x = m - i + (x - (m - i)) := by omega
    rw [ht.out x (by omega)]
    rw [e, w.lo (x - (m - i)) (by omega)]
    congr 1; omega
  · by_cases hx : x < m - i + j + j
    · rw [ht.lo x (by omega) (by omega), w.hi (x - (m - (i - j))) (by omega)]
      congr 1; omega
    · rw [ht.hi x (by omega) (by omega), w.out _ (by omega) (by omega)]
      congr 1; omega
  · rw [ht.out x (by omega), w.out x (by omega) (by omega)]
theorem rot_right {h k t : Nat → Nat} {m i j : Nat} (hi : 0 < i) (hij : i < j) (him : i ≤ m) (w : Swr h k (m - i) (m + j - i) i) (ht : Rot k t (m - i) m (m + (j - i))) : Rot h t (m - i) m (m + j) := by
  refine ⟨fun x x1 x2 => ?_, fun x x1 x2 => ?_, fun x hx => ?_⟩
  · by_cases hx : x < m - i + (j - i)
    · rw [ht.lo x (by omega) (by omega), w.out _ (by omega) (by omega)]
    · by_cases hx2 : x < m + (j - i)
      · have e : ∀ z, m - i + (j - i) ≤ z → z < m + (j - i) → t z = h (m + (z - (m - i))) := fun z z1 z2 => by
          rw [ht.hi z (by omega) (by omega), show m - i + (z - (m - i + (m + (j - i) - m))) = m - i + (z - (m - i) - (j - i)) by omega, w.lo _ (by omega)]
          congr 1; omega
        exact e x (by omega) hx2
      · omega
  · have e : x = m + j - i + (x - (m + j - i)) := by omega
    rw [ht.out x (by omega), e, w.hi _ (by omega)]
    congr 1; omega
  · rw [ht.out x (by omega), w.out x (by omega) (by omega)]
theorem rot_half {h t : Nat → Nat} {m i : Nat} (him : i ≤ m) (w : Swr h t (m - i) m i) : Rot h t (m - i) m (m + i) := by
  refine ⟨fun x x1 x2 => ?_, fun x x1 x2 => ?_, fun x hx => w.out x (by omega) (by omega)⟩
  · have e : x = m - i + (x - (m - i)) := by omega
    rw [e, w.lo _ (by omega)]
    congr 1; omega
  · have e : x = m + (x - m) := by omega
    rw [e, w.hi _ (by omega)]
    congr 1; omega

/-- Blocks of s from lo to hi: each is sorted, and has what stood in it. -/
def Bks (lt : α → α → Bool) (F : Nat → α) (g : Nat → Nat) (s n lo hi : Nat) : Prop :=
  ∀ k, lo ≤ k * s → k * s < hi → Srt lt F g (k * s) (min (k * s + s) n) ∧ ∀ i, k * s ≤ i → i < min (k * s + s) n → k * s ≤ g i ∧ g i < min (k * s + s) n

theorem bks_none (g : Nat → Nat) (s n a : Nat) : Bks lt F g s n a a := fun k h1 h2 => by omega
/-- One more block is done; the others stay. -/
theorem bks_grow {g h : Nat → Nat} {s n k : Nat} (hs : 0 < s) (b : Bks lt F g s n 0 (k * s)) (m : Mv g h (k * s) (min (k * s + s) n)) (hS : Srt lt F h (k * s) (min (k * s + s) n))
    (hg : ∀ i, k * s ≤ i → i < min (k * s + s) n → k * s ≤ g i ∧ g i < min (k * s + s) n) : Bks lt F h s n 0 (k * s + s) := by
  intro q q1 q2
  have hq : q ≤ k := by
    by_cases e : q ≤ k
    · exact e
    · have := Nat.mul_le_mul_right s (show k + 1 ≤ q by omega)
      rw [Nat.add_mul, Nat.one_mul] at this
      omega
  by_cases e : q = k
  · subst e
    refine ⟨hS, fun i i1 i2 => ?_⟩
    obtain ⟨j, j1, j2, e⟩ := m.img i i1 i2
    rw [e]
    exact hg j j1 j2
  · have hlt : q * s + s ≤ k * s := by
      have := Nat.mul_le_mul_right s (show q + 1 ≤ k by omega)
      rwa [Nat.add_mul, Nat.one_mul] at this
    obtain ⟨b1, b2⟩ := b q q1 (by omega)
    refine ⟨b1.mv m (.inl (by omega)), fun i i1 i2 => ?_⟩
    rw [m.out i (.inl (by omega))]
    exact b2 i i1 i2
theorem bks_rest {g h : Nat → Nat} {s n k c : Nat} (b : Bks lt F g s n c n) (m : Mv g h k c) : Bks lt F h s n c n := by
  intro q q1 q2
  obtain ⟨b1, b2⟩ := b q q1 q2
  refine ⟨b1.mv m (.inr q1), fun i i1 i2 => ?_⟩
  rw [m.out i (.inr (by omega))]
  exact b2 i i1 i2
theorem Bks.le {g : Nat → Nat} {s n lo hi lo' hi' : Nat} (b : Bks lt F g s n lo hi) (h1 : lo ≤ lo') (h2 : hi' ≤ hi) : Bks lt F g s n lo' hi' := fun k k1 k2 => b k (by omega) (by omega)
/-- Two blocks side by side. -/
theorem bks_two {g : Nat → Nat} {s n k z : Nat} (b : Bks lt F g s n (k * (2 * s)) n) (hs : 0 < s) (h1 : k * (2 * s) + s < z) (hz : z = min (k * (2 * s) + 2 * s) n) :
    Srt lt F g (k * (2 * s)) (k * (2 * s) + s) ∧ Srt lt F g (k * (2 * s) + s) z ∧ Fst g (k * (2 * s)) (k * (2 * s) + s) z ∧ ∀ i, k * (2 * s) ≤ i → i < z → k * (2 * s) ≤ g i ∧ g i < z := by
  have e1 : (2 * k) * s = k * (2 * s) := by rw [Nat.mul_comm 2 k, Nat.mul_assoc]
  have e2 : (2 * k + 1) * s = k * (2 * s) + s := by rw [Nat.add_mul, Nat.one_mul, e1]
  obtain ⟨x1, y1⟩ := b (2 * k) (by omega) (by omega)
  obtain ⟨x2, y2⟩ := b (2 * k + 1) (by omega) (by omega)
  rw [e1] at x1 y1
  rw [e2] at x2 y2
  generalize k * (2 * s) = a at *
  have m1 : min (a + s) n = a + s := by omega
  have m2 : min (a + s + s) n = z := by omega
  rw [m1] at x1 y1
  rw [m2] at x2 y2
  refine ⟨x1, x2, fun i j i1 i2 j1 j2 => ?_, fun i i1 i2 => ?_⟩
  · have := (y1 i i1 i2).2
    have := (y2 j j1 j2).1
    omega
  · by_cases h : i < a + s
    · have := y1 i i1 h
      omega
    · have := y2 i (by omega) i2
      omega
/-- The last block alone. -/
theorem bks_last {g : Nat → Nat} {s n k : Nat} (b2 : Bks lt F g (2 * s) n 0 (k * (2 * s))) (b : Bks lt F g s n (k * (2 * s)) n) (hs : 0 < s) (h : n ≤ k * (2 * s) + s) : Bks lt F g (2 * s) n 0 n := by
  intro q q1 q2
  by_cases hq : q < k
  · refine b2 q q1 ?_
    have := Nat.mul_le_mul_right (2 * s) (show q + 1 ≤ k from hq)
    rw [Nat.add_mul, Nat.one_mul] at this
    omega
  · have hqk : q = k := by
      by_cases e : q = k
      · exact e
      · have := Nat.mul_le_mul_right (2 * s) (show k + 1 ≤ q by omega)
        rw [Nat.add_mul, Nat.one_mul] at this
        omega
    subst hqk
    have e1 : (2 * q) * s = q * (2 * s) := by rw [Nat.mul_comm 2 q, Nat.mul_assoc]
    obtain ⟨x1, y1⟩ := b (2 * q) (by omega) (by omega)
    rw [e1] at x1 y1
    generalize q * (2 * s) = a at *
    have m1 : min (a + s) n = n := by omega
    have m2 : min (a + 2 * s) n = n := by omega
    rw [m1] at x1 y1
    rw [m2]
    exact ⟨x1, y1⟩
/-- A pass that is done: blocks of twice the size. -/
theorem bks_one {g : Nat → Nat} {s n : Nat} (hs : n ≤ s) (b : Bks lt F g s n 0 n) : Srt lt F g 0 n ∧ ∀ i, i < n → g i < n := by
  by_cases h0 : n = 0
  · exact ⟨fun i j h1 h2 h3 => by omega, fun i hi => by omega⟩
  obtain ⟨b1, b2⟩ := b 0 (by omega) (by omega)
  rw [Nat.zero_mul, Nat.zero_add] at b1 b2
  exact ⟨b1.sub (Nat.le_refl _) (by omega), fun i hi => by have := (b2 i (by omega) (by omega)).2; omega⟩

/-- All of so many, each once, in one order: there is one such row. -/
theorem perm_of_nodup : ∀ (L M : List Nat), L.Nodup → (∀ x ∈ L, x ∈ M) → M.length ≤ L.length → L.Perm M
  | [], M, _, _, h => by
    have : M = [] := List.eq_nil_of_length_eq_zero (by simpa using h)
    rw [this]
  | x :: L, M, hn, hs, hl => by
    have hx : x ∈ M := hs x (by simp)
    rw [List.nodup_cons] at hn
    have ih := perm_of_nodup L (M.erase x) hn.2 (fun y hy => by
      have hne : y ≠ x := fun e => hn.1 (e ▸ hy)
      exact (List.mem_erase_of_ne hne).2 (hs y (by simp [hy]))) (by rw [List.length_erase_of_mem hx]; simp at hl; omega)
    exact (ih.cons x).trans (List.perm_cons_erase hx).symm
theorem eq_of_pre (K : Weak lt) : ∀ (L M : List Nat), L.Perm M → L.Pairwise (pre lt F) → M.Pairwise (pre lt F) → L = M
  | [], M, hp, _, _ => by rw [List.Perm.nil_eq hp]
  | x :: L, [], hp, _, _ => by have := hp.length_eq; simp at this
  | x :: L, y :: M, hp, h1, h2 => by
    rw [List.pairwise_cons] at h1 h2
    have e : x = y := by
      by_cases e : x = y
      · exact e
      · exfalso
        have hx : x ∈ y :: M := hp.subset (by simp)
        have hy : y ∈ x :: L := hp.symm.subset (by simp)
        simp [e, Ne.symm e] at hx hy
        exact pre_asym K (h1.1 y hy) (h2.1 x hx)
    subst e
    rw [eq_of_pre K L M (List.Perm.cons_inv hp) h1.2 h2.2]

/-- The stable sort, plainly: each goes behind all that it isn't ahead of. -/
def ins (lt : α → α → Bool) (x : α) : List α → List α
  | [] => [x]
  | y :: l => if lt x y = true then x :: y :: l else y :: ins lt x l
def stS (lt : α → α → Bool) (L : List α) : List α := L.foldl (fun l x => ins lt x l) []
theorem ins_map (x : Nat) : ∀ L : List Nat, (ins (fun a b => lt (F a) (F b)) x L).map F = ins lt (F x) (L.map F)
  | [] => rfl
  | y :: L => by
    unfold ins
    rw [List.map_cons]
    simp only [ins]
    split
    · rfl
    · rw [List.map_cons, ins_map x L]
theorem ins_perm (x : α) : ∀ L : List α, (ins lt x L).Perm (x :: L)
  | [] => List.Perm.refl _
  | y :: L => by
    unfold ins
    split
    · exact List.Perm.refl _
    · exact ((ins_perm x L).cons y).trans (List.Perm.swap x y L)
theorem ins_length (x : α) (L : List α) : (ins lt x L).length = L.length + 1 := by rw [(ins_perm x L).length_eq]; rfl
theorem ins_pre (K : Weak lt) (x : Nat) : ∀ L : List Nat, L.Pairwise (pre lt F) → (∀ y ∈ L, y < x) → (ins (fun a b => lt (F a) (F b)) x L).Pairwise (pre lt F)
  | [], _, _ => by simp [ins]
  | y :: L, h, hx => by
    rw [List.pairwise_cons] at h
    unfold ins
    split
    · rename_i hl
      refine List.pairwise_cons.2 ⟨fun z hz => ?_, List.pairwise_cons.2 h⟩
      rcases List.mem_cons.1 hz with rfl | hz
      · exact .inl hl
      · exact pre_trans K (.inl hl) (h.1 z hz)
    · rename_i hl
      refine List.pairwise_cons.2 ⟨fun z hz => ?_, ins_pre K x L h.2 fun z hz => hx z (by simp [hz])⟩
      rcases List.mem_cons.1 ((ins_perm x L).subset hz) with rfl | hz
      · exact pre_of_ge (hx y (by simp)) (by simpa using hl)
      · exact h.1 z hz
theorem stI_facts (K : Weak lt) : ∀ n : Nat, ((stS (fun a b => lt (F a) (F b)) (List.range n)).Pairwise (pre lt F)) ∧ (stS (fun a b => lt (F a) (F b)) (List.range n)).Perm (List.range n)
  | 0 => by simp [stS]
  | n + 1 => by
    obtain ⟨h1, h2⟩ := stI_facts K n
    have e : stS (fun a b => lt (F a) (F b)) (List.range (n + 1)) = ins (fun a b => lt (F a) (F b)) n (stS (fun a b => lt (F a) (F b)) (List.range n)) := by
      unfold stS
      rw [List.range_succ, List.foldl_append]
      rfl
    rw [e]
    refine ⟨ins_pre K n _ h1 fun y hy => ?_, (ins_perm n _).trans ?_⟩
    · have := h2.subset hy
      simpa using this
    · rw [List.range_succ]
      exact (h2.cons n).trans (List.perm_append_comm (l₁ := [n]))
theorem stS_map : ∀ (L M : List Nat), (L.foldl (fun l x => ins (fun a b => lt (F a) (F b)) x l) M).map F = (L.map F).foldl (fun l x => ins lt x l) (M.map F)
  | [], M => rfl
  | x :: L, M => by
    rw [List.foldl_cons, stS_map L, ins_map]
    rfl
/-- A row that is sorted so is the stable sort of what it was. -/
theorem srt_eq (K : Weak lt) (n : Nat) (g : Nat → Nat) (hs : Srt lt F g 0 n) (hg : ∀ i, i < n → g i < n) : (List.range n).map (fun i => F (g i)) = stS lt ((List.range n).map F) := by
  obtain ⟨h1, h2⟩ := stI_facts (F := F) K n
  have hpw : ((List.range n).map g).Pairwise (pre lt F) := by
    rw [List.pairwise_map, List.pairwise_iff_getElem]
    intro i j hi hj hij
    simp at hi hj ⊢
    exact hs i j (Nat.zero_le _) hij hj
  have hnd : ((List.range n).map g).Nodup := hpw.imp fun {a b} h => by
    intro e
    rw [e] at h
    exact pre_irr K _ h
  have hpm : ((List.range n).map g).Perm (List.range n) := perm_of_nodup _ _ hnd (fun x hx => by
    simp at hx ⊢
    obtain ⟨i, hi, rfl⟩ := hx
    exact hg i hi) (by simp)
  have he := eq_of_pre K _ _ (hpm.trans h2.symm) hpw h1
  have h3 := stS_map (lt := lt) (F := F) (List.range n) []
  rw [List.map_nil] at h3
  unfold stS at he ⊢
  rw [← h3, ← he, List.map_map]
  rfl
end
end Go.Proofs.Ytfijkbgbhaoilaa
