/- No two events have the same bytes, or text (plain). -/
import Derived.Test.YtbinmgpfkjmijaaGreatDoorEvPl
namespace Go.Proofs.YtbinmgpfkjmijaaGreatDoor
open Go.Lib

theorem decD_inj : ∀ n m : Nat, decDigits n = decDigits m → n = m := by
  intro n
  refine dec_step7 (fun n => ∀ m, decDigits n = decDigits m → n = m) (fun n hn m h => ?_) (fun n hn ih m h => ?_) n
  · by_cases hm : m < 10
    · rw [dec_lo hn, dec_lo hm] at h
      have h1 := congrArg UInt8.toNat (List.cons.inj h).1
      rw [digit_nat hn, digit_nat hm] at h1
      omega
    · rw [dec_lo hn, dec_hi hm] at h
      have h1 := congrArg List.length h
      have h2 := dec_some (m / 10)
      have h3 : 0 < (decDigits (m / 10)).length := List.length_pos_iff.2 h2
      rw [List.length_append] at h1
      simp only [List.length_cons, List.length_nil] at h1
      omega
  · by_cases hm : m < 10
    · rw [dec_hi hn, dec_lo hm] at h
      have h1 := congrArg List.length h
      have h2 := dec_some (n / 10)
      have h3 : 0 < (decDigits (n / 10)).length := List.length_pos_iff.2 h2
      rw [List.length_append] at h1
      simp only [List.length_cons, List.length_nil] at h1
      omega
    · rw [dec_hi hn, dec_hi hm] at h
      obtain ⟨h1, h2⟩ := List.append_inj' h rfl
      have h3 := ih _ h1
      have h4 := congrArg UInt8.toNat (List.cons.inj h2).1
      rw [digit_nat (by omega), digit_nat (by omega)] at h4
      omega
theorem itoa_inj {a b : Int} (h : itoa a = itoa b) : a = b := by
  unfold itoa at h
  have hd : ∀ n : Nat, ∀ r, decDigits n ≠ 45 :: r := fun n r e => by
    have := dec_isDigit n 45 (by rw [e]; simp)
    revert this
    decide
  split at h
  · split at h
    · have := decD_inj _ _ (List.cons.inj h).2
      omega
    · exact absurd h.symm (hd _ _)
  · split at h
    · exact absurd h (hd _ _)
    · have := decD_inj _ _ h
      omega
theorem itoa_no (a : Int) : ∀ c ∈ itoa a, c ≠ 32 := by
  intro c hc
  unfold itoa at hc
  have hd : ∀ n : Nat, c ∈ decDigits n → c ≠ 32 := fun n h e => by
    subst e
    have := dec_isDigit n 32 h
    revert this
    decide
  split at hc
  · rcases List.mem_cons.1 hc with rfl | h
    · decide
    · exact hd _ h
  · exact hd _ hc
theorem cut_inj : ∀ {x y t u : List UInt8}, (∀ c ∈ x, c ≠ 32) → (∀ c ∈ y, c ≠ 32) → (∀ c, t.head? = some c → c = 32) → (∀ c, u.head? = some c → c = 32) → x ++ t = y ++ u → x = y ∧ t = u
  | [], [], t, u, _, _, _, _, h => ⟨rfl, h⟩
  | [], b :: y, t, u, _, hy, ht, _, h => by
    have h0 : t = b :: (y ++ u) := h
    have := ht b (by rw [h0]; rfl)
    exact absurd this (hy b (by simp))
  | a :: x, [], t, u, hx, _, _, hu, h => by
    have h0 : a :: (x ++ t) = u := h
    have := hu a (by rw [← h0]; rfl)
    exact absurd this (hx a (by simp))
  | a :: x, b :: y, t, u, hx, hy, ht, hu, h => by
    have h0 := List.cons.inj h
    obtain ⟨h1, h2⟩ := cut_inj (fun c hc => hx c (List.mem_cons_of_mem _ hc)) (fun c hc => hy c (List.mem_cons_of_mem _ hc)) ht hu h0.2
    exact ⟨by rw [h0.1, h1], h2⟩
theorem tail_head (r : List (List UInt8)) : ∀ c, (joinTail [32] r).head? = some c → c = 32 := by
  intro c h
  cases r with
  | nil => simp [joinTail] at h
  | cons x r => simp [joinTail] at h; exact h.symm
theorem tail_inj : ∀ (l m : List (List UInt8)), (∀ x ∈ l, ∀ c ∈ x, c ≠ 32) → (∀ x ∈ m, ∀ c ∈ x, c ≠ 32) → joinTail [32] l = joinTail [32] m → l = m
  | [], [], _, _, _ => rfl
  | [], y :: m, _, _, h => by simp [joinTail] at h
  | x :: l, [], _, _, h => by simp [joinTail] at h
  | x :: l, y :: m, hl, hm, h => by
    have h0 : 32 :: (x ++ joinTail [32] l) = 32 :: (y ++ joinTail [32] m) := by simpa [joinTail] using h
    obtain ⟨h1, h2⟩ := cut_inj (hl x (by simp)) (hm y (by simp)) (tail_head l) (tail_head m) (List.cons.inj h0).2
    rw [h1, tail_inj l m (fun z hz => hl z (List.mem_cons_of_mem _ hz)) (fun z hz => hm z (List.mem_cons_of_mem _ hz)) h2]
theorem join_inj {x y : List UInt8} {l m : List (List UInt8)} (hx : ∀ z ∈ x :: l, ∀ c ∈ z, c ≠ 32) (hy : ∀ z ∈ y :: m, ∀ c ∈ z, c ≠ 32) (h : join (x :: l) [32] = join (y :: m) [32]) : x = y ∧ l = m := by
  rw [join_cons, join_cons] at h
  obtain ⟨h1, h2⟩ := cut_inj (hx x (by simp)) (hy y (by simp)) (tail_head l) (tail_head m) h
  exact ⟨h1, tail_inj l m (fun z hz => hx z (List.mem_cons_of_mem _ hz)) (fun z hz => hy z (List.mem_cons_of_mem _ hz)) h2⟩
theorem kindB_no : ∀ k : Fin 15, ∀ c ∈ kindB.getD k.val [], c ≠ 32 := by decide +kernel
theorem kindB_inj : ∀ k m : Fin 15, kindB.getD k.val [] = kindB.getD m.val [] → k = m := by decide +kernel
theorem trapB_no : ∀ k : Fin 7, ∀ c ∈ trapB.getD k.val [], c ≠ 32 := by decide +kernel
theorem trapB_inj : ∀ k m : Fin 7, trapB.getD k.val [] = trapB.getD m.val [] → k = m := by decide +kernel
theorem txtS_no {s : Si} : ∀ c ∈ txtS s, c ≠ 32 := by
  intro c hc
  have hd : ∀ n : Nat, c ∈ decDigits n → c ≠ 32 := fun n h e => by
    subst e
    have := dec_isDigit n 32 h
    revert this
    decide
  unfold txtS at hc
  rcases List.mem_cons.1 hc with rfl | h
  · decide
  · rcases List.mem_append.1 h with h | h
    · exact hd _ h
    · rcases List.mem_cons.1 h with rfl | h
      · decide
      · exact hd _ h
/-- A word tells its number. -/
theorem wordE_inj {p : Nat} {v u : Int} (h5 : p = 5 → (1 ≤ v ∧ v ≤ 6) ∧ 1 ≤ u ∧ u ≤ 6) (h : wordE p v = wordE p u) : v = u := by
  unfold wordE at h
  split at h
  · rename_i e
    obtain ⟨h1, h2⟩ := h5 e
    have := trapB_inj ⟨v.toNat, by omega⟩ ⟨u.toNat, by omega⟩ h
    have := congrArg Fin.val this
    simp only at this
    omega
  · exact itoa_inj h
theorem wordE_no {p : Nat} {v : Int} (h5 : p = 5 → 1 ≤ v ∧ v ≤ 6) : ∀ c ∈ wordE p v, c ≠ 32 := by
  unfold wordE
  split
  · rename_i e
    have := h5 e
    exact trapB_no ⟨v.toNat, by omega⟩
  · exact itoa_no v
/-- Two that may be, of one Kind, goroutine and site, are one if their parts are. -/
theorem ev_same {x y : Ev} (hx : mayE x = true) (hy : mayE y = true) (hk : x.k = y.k) (hg : x.g = y.g) (hf : x.f = y.f) (hp : x.p = y.p) (h : ∀ p ∈ partsE x.k.toNat, getE p x = getE p y) : x = y := by
  rw [mayE_doc] at hx hy
  unfold docE at hx hy
  have h1 := of_decide_eq_true hx
  have h2 := of_decide_eq_true hy
  clear hx hy
  obtain ⟨g, k, f, p, a, c, o, n, t⟩ := x
  obtain ⟨g', k', f', p', a', c', o', n', t'⟩ := y
  simp only at hk hg hf hp h1 h2 h
  subst hk hg hf hp
  have e : a = a' ∧ c = c' ∧ o = o' ∧ n = n' ∧ t = t' := by
    rcases kind_cases h1.1 with rfl | rfl | rfl | rfl | rfl | rfl | rfl | rfl | rfl | rfl | rfl | rfl | rfl | rfl <;>
      simp only [partsE, Int.reduceToNat, List.mem_cons, List.not_mem_nil, or_false, forall_eq, forall_eq_or_imp, getE, false_implies, implies_true] at h <;> omega
  obtain ⟨rfl, rfl, rfl, rfl, rfl⟩ := e
  rfl
theorem may_bits {x : Ev} (h : mayE x = true) : mayQ 0 x = true ∧ rightS (x.f, x.p) = true ∧ (∀ p ∈ partsE x.k.toNat, mayQ p x = true) ∧ 1 ≤ x.k ∧ x.k ≤ 14 := by
  unfold mayE holdsE at h
  simp only [Bool.and_eq_true, decide_eq_true_eq] at h
  exact ⟨h.2.1, h.2.2.1, fun p hp => List.all_eq_true.1 h.2.2.2.1 p hp, h.1.1, h.1.2⟩
theorem mayQ_trap {x : Ev} {p : Nat} (h : mayQ p x = true) (e : p = 5) : 1 ≤ getE p x ∧ getE p x ≤ 6 := by
  subst e
  simpa [mayQ, getE] using h
theorem words_no {x : Ev} (h : mayE x = true) : ∀ z ∈ wordsE x, ∀ c ∈ z, c ≠ 32 := by
  obtain ⟨h1, h2, h3, h4⟩ := may_bits h
  intro z hz
  unfold wordsE saidE at hz
  simp only [List.mem_append, List.mem_map, List.mem_cons, List.not_mem_nil, or_false] at hz
  rcases hz with (⟨p, rfl, rfl⟩ | rfl | rfl) | ⟨p, hp, rfl⟩
  · exact wordE_no (fun e => by cases e)
  · exact txtS_no
  · exact kindB_no ⟨x.k.toNat, by omega⟩
  · exact wordE_no (fun e => mayQ_trap (h3 p hp) e)
theorem leB_inj : ∀ (k n m : Nat), n < 256 ^ k → m < 256 ^ k → leB k n = leB k m → n = m
  | k, n, m, hn, hm, h => by
    have h1 := congrArg unB h
    rw [unB_leB, unB_leB, Nat.mod_eq_of_lt hn, Nat.mod_eq_of_lt hm] at h1
    exact h1
/-- The number of a part fits its width, and tells the part. -/
theorem numE_fit {p : Nat} {x : Ev} (ha : 0 ≤ x.a ∧ x.a < 4294967296) (h : mayQ p x = true) (hp : p < 6) : numE p x < 256 ^ widE p := by
  match p, hp with
  | 0, _ => simp only [mayQ, decide_eq_true_eq] at h; simp only [numE, getE, widE]; split <;> omega
  | 1, _ => simp only [numE, getE, widE]; split <;> omega
  | 2, _ => simp only [mayQ, decide_eq_true_eq] at h; simp only [numE, getE, widE]; split <;> omega
  | 3, _ => simp only [mayQ, decide_eq_true_eq] at h; simp only [numE, getE, widE]; split <;> omega
  | 4, _ => simp only [mayQ, decide_eq_true_eq] at h; simp only [numE, getE, widE]; split <;> omega
  | 5, _ => simp only [mayQ, decide_eq_true_eq] at h; simp only [numE, getE, widE]; split <;> omega
theorem numE_get {p : Nat} {x y : Ev} (ha : 0 ≤ x.a ∧ x.a < 4294967296) (hb : 0 ≤ y.a ∧ y.a < 4294967296) (h : mayQ p x = true) (h2 : mayQ p y = true) (hp : p < 6) (e : numE p x = numE p y) : getE p x = getE p y := by
  match p, hp with
  | 0, _ => simp only [mayQ, decide_eq_true_eq] at h h2; simp only [numE, getE, widE] at e ⊢; split at e <;> split at e <;> omega
  | 1, _ => simp only [numE, getE, widE] at e ⊢; split at e <;> split at e <;> omega
  | 2, _ => simp only [mayQ, decide_eq_true_eq] at h h2; simp only [numE, getE, widE] at e ⊢; split at e <;> split at e <;> omega
  | 3, _ => simp only [mayQ, decide_eq_true_eq] at h h2; simp only [numE, getE, widE] at e ⊢; split at e <;> split at e <;> omega
  | 4, _ => simp only [mayQ, decide_eq_true_eq] at h h2; simp only [numE, getE, widE] at e ⊢; split at e <;> split at e <;> omega
  | 5, _ => simp only [mayQ, decide_eq_true_eq] at h h2; simp only [numE, getE, widE] at e ⊢; split at e <;> split at e <;> omega
theorem bytE_inj {x y : Ev} (ha : 0 ≤ x.a ∧ x.a < 4294967296) (hb : 0 ≤ y.a ∧ y.a < 4294967296) : ∀ (l : List Nat), (∀ p ∈ l, p < 6 ∧ mayQ p x = true ∧ mayQ p y = true) → bytE l x = bytE l y → ∀ p ∈ l, getE p x = getE p y
  | [], _, _, p, hp => by simp at hp
  | q :: l, hl, h, p, hp => by
    have h0 : leB (widE q) (numE q x) ++ bytE l x = leB (widE q) (numE q y) ++ bytE l y := h
    obtain ⟨h1, h2⟩ := List.append_inj h0 (by rw [leB_length, leB_length])
    have hq := hl q (by simp)
    rcases List.mem_cons.1 hp with rfl | hp
    · exact numE_get ha hb hq.2.1 hq.2.2 hq.1 (leB_inj _ _ _ (numE_fit ha hq.2.1 hq.1) (numE_fit hb hq.2.2 hq.1) h1)
    · exact bytE_inj ha hb l (fun z hz => hl z (List.mem_cons_of_mem _ hz)) h2 p hp
theorem partsE_lt (k : Nat) : ∀ p ∈ partsE k, p < 6 := by
  unfold partsE
  split <;> decide
theorem bytesE_inj {x y : Ev} (ha : 0 ≤ x.a ∧ x.a < 4294967296) (hb : 0 ≤ y.a ∧ y.a < 4294967296) (hx : mayE x = true) (hy : mayE y = true) (h : bytesE x = bytesE y) : x = y := by
  have bx := may_bits hx
  have bY := may_bits hy
  unfold bytesE at h
  simp only [List.append_assoc] at h
  obtain ⟨h1, h2⟩ := List.append_inj h rfl
  have hk := congrArg UInt8.toNat (List.cons.inj h1).1
  rw [UInt8.toNat_ofNat', UInt8.toNat_ofNat'] at hk
  have hk2 : x.k = y.k := by have := bx.2.2.2; have := bY.2.2.2; omega
  have hl0 : (bytE [0] x).length = (bytE [0] y).length := by simp [bytE, leB_length]
  obtain ⟨h3, h4⟩ := List.append_inj h2 hl0
  obtain ⟨h5, h6⟩ := List.append_inj h4 (by rw [byS_length, byS_length])
  have hg := bytE_inj ha hb [0] (fun p hp => by obtain rfl : p = 0 := (by simpa using hp); exact ⟨by omega, bx.1, bY.1⟩) h3 0 (by simp)
  have r1 := readB_by bx.2.1 []
  have r2 := readB_by bY.2.1 []
  rw [h5] at r1
  have hs := congrArg Prod.fst (r1.symm.trans r2)
  rw [← hk2] at h6
  refine ev_same hx hy hk2 hg (congrArg Prod.fst hs) (congrArg Prod.snd hs) ?_
  exact bytE_inj ha hb _ (fun p hp => ⟨partsE_lt _ p hp, bx.2.2.1 p hp, bY.2.2.1 p (by rw [← hk2]; exact hp)⟩) h6
theorem map_get {α : Type} {f g : Nat → α} : ∀ {l : List Nat}, l.map f = l.map g → ∀ p ∈ l, f p = g p
  | [], _, p, hp => by simp at hp
  | q :: l, h, p, hp => by
    have h0 := List.cons.inj h
    rcases List.mem_cons.1 hp with rfl | hp
    · exact h0.1
    · exact map_get h0.2 p hp
theorem textE_inj {x y : Ev} (hx : mayE x = true) (hy : mayE y = true) (h : textE x = textE y) : x = y := by
  have e : ∀ z : Ev, wordsE z = wordE 0 z.g :: ([txtS (z.f, z.p), kindB.getD z.k.toNat []] ++ saidE (partsE z.k.toNat) z) := fun z => rfl
  unfold textE at h
  have nx := words_no hx
  have ny := words_no hy
  rw [e] at nx ny
  rw [e x, e y] at h
  obtain ⟨h1, h2⟩ := join_inj nx ny h
  have h3 := (List.cons.inj h2)
  have h4 := (List.cons.inj h3.2)
  have bx := may_bits hx
  have bY := may_bits hy
  have hg := wordE_inj (fun e => by cases e) h1
  have hs := txtS_inj bx.2.1 bY.2.1 h3.1
  have hk := congrArg Fin.val (kindB_inj ⟨x.k.toNat, by have := bx.2.2.2; omega⟩ ⟨y.k.toNat, by have := bY.2.2.2; omega⟩ h4.1)
  simp only at hk
  have hk2 : x.k = y.k := by have := bx.2.2.2; have := bY.2.2.2; omega
  refine ev_same hx hy hk2 hg (congrArg Prod.fst hs) (congrArg Prod.snd hs) (fun p hp => ?_)
  have h5 : (partsE x.k.toNat).map (fun p => wordE p (getE p x)) = (partsE x.k.toNat).map (fun p => wordE p (getE p y)) := by
    have := h4.2
    rw [hk2] at this ⊢
    exact this
  exact wordE_inj (fun e => ⟨mayQ_trap (bx.2.2.1 p hp) e, mayQ_trap (bY.2.2.1 p (by rw [← hk2]; exact hp)) e⟩) (map_get h5 p hp)
end Go.Proofs.YtbinmgpfkjmijaaGreatDoor
