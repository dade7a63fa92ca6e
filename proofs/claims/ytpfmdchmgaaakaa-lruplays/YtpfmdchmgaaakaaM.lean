/-
  What is kept, as a plain list: that used the longest ago first.
-/
namespace Go.Proofs.Ytpfmdchmgaaakaa.M
set_option linter.unusedVariables false

/-- What is kept of a key. -/
structure K where
  key : Int
  val : ByteArray
  pin : Bool

/-- The bytes of all values. -/
def bytes : List K → Nat
  | [] => 0
  | e :: r => e.val.size + bytes r
theorem bytes_app : ∀ l q, bytes (l ++ q) = bytes l + bytes q
  | [], q => by simp [bytes]
  | e :: r, q => by rw [List.cons_append, bytes, bytes, bytes_app r q]; omega
theorem bytes_mid (l q : List K) (x : K) : bytes (l ++ x :: q) = bytes (l ++ q) + x.val.size := by
  rw [bytes_app, bytes_app, bytes]; omega
theorem bytes_one (x : K) : bytes [x] = x.val.size := by simp [bytes]

/-- A key's place; how many there are, if it is not kept. -/
def fnd : List K → Int → Nat
  | [], _ => 0
  | e :: r, k => if e.key = k then 0 else fnd r k + 1
theorem fnd_le : ∀ l k, fnd l k ≤ l.length
  | [], k => by simp [fnd]
  | e :: r, k => by
    rw [fnd]
    split
    · omega
    · have := fnd_le r k; simp; omega
theorem fnd_lo : ∀ (l : List K) (k : Int) (j : Nat) (h : j < l.length), j < fnd l k → l[j].key ≠ k
  | [], k, j, h, _ => by simp at h
  | e :: r, k, 0, h, hj => by
    rw [fnd] at hj
    split at hj
    · omega
    · simpa
  | e :: r, k, j + 1, h, hj => by
    rw [fnd] at hj
    split at hj
    · omega
    · simpa using fnd_lo r k j (by simpa using h) (by omega)
theorem fnd_hi : ∀ (l : List K) (k : Int) (h : fnd l k < l.length), l[fnd l k].key = k
  | [], k, h => by simp at h
  | e :: r, k, h => by
    by_cases he : e.key = k
    · have hf : fnd (e :: r) k = 0 := by rw [fnd, if_pos he]
      simp only [hf]
      simpa
    · have hf : fnd (e :: r) k = fnd r k + 1 := by rw [fnd, if_neg he]
      have hl : fnd r k < r.length := by rw [hf] at h; simpa using h
      simp only [hf]
      simpa using fnd_hi r k hl
theorem fnd_eq (l : List K) (k : Int) (j : Nat) (hj : j ≤ l.length) (hlo : ∀ i (h : i < l.length), i < j → l[i].key ≠ k) (hhi : ∀ h : j < l.length, l[j].key = k) : fnd l k = j := by
  rcases Nat.lt_trichotomy (fnd l k) j with h | h | h
  · exact absurd (fnd_hi l k (by omega)) (hlo _ (by omega) h)
  · exact h
  · have := fnd_le l k
    exact absurd (hhi (by omega)) (fnd_lo l k j (by omega) h)
/-- Is a key kept? -/
def has (l : List K) (k : Int) : Bool := decide (fnd l k < l.length)
/-- Without a key. -/
def drp (l : List K) (k : Int) : List K := l.eraseIdx (fnd l k)
theorem fnd_at (A B : List K) (x : K) (hA : ∀ e ∈ A, e.key ≠ x.key) : fnd (A ++ x :: B) x.key = A.length := by
  refine fnd_eq _ _ _ (by simp) (fun i h hi => ?_) (fun h => ?_)
  · rw [List.getElem_append_left hi]
    exact hA _ (List.getElem_mem hi)
  · simp
theorem fnd_no (l : List K) (k : Int) (h : ∀ e ∈ l, e.key ≠ k) : fnd l k = l.length :=
  fnd_eq _ _ _ (Nat.le_refl _) (fun i hi _ => h _ (List.getElem_mem hi)) (fun h => by omega)
theorem has_at (A B : List K) (x : K) (hA : ∀ e ∈ A, e.key ≠ x.key) : has (A ++ x :: B) x.key = true := by
  unfold has
  rw [fnd_at A B x hA]
  simp
theorem has_no (l : List K) (k : Int) (h : ∀ e ∈ l, e.key ≠ k) : has l k = false := by
  unfold has
  rw [fnd_no l k h]
  simp
theorem drp_at (A B : List K) (x : K) (hA : ∀ e ∈ A, e.key ≠ x.key) : drp (A ++ x :: B) x.key = A ++ B := by
  unfold drp
  rw [fnd_at A B x hA, List.eraseIdx_append_of_length_le (Nat.le_refl _)]
  simp
theorem drp_no (l : List K) (k : Int) (h : ∀ e ∈ l, e.key ≠ k) : drp l k = l := by
  unfold drp
  rw [fnd_no l k h, List.eraseIdx_of_length_le (Nat.le_refl _)]
theorem split_or : ∀ (l : List K) (k : Int), (∀ e ∈ l, e.key ≠ k) ∨ ∃ A x B, l = A ++ x :: B ∧ x.key = k ∧ ∀ e ∈ A, e.key ≠ k
  | [], k => .inl (by simp)
  | e :: r, k => by
    by_cases he : e.key = k
    · exact .inr ⟨[], e, r, rfl, he, by simp⟩
    · rcases split_or r k with h | ⟨A, x, B, rfl, hx, hA⟩
      · exact .inl (fun y hy => by rcases List.mem_cons.1 hy with rfl | hy; exact he; exact h y hy)
      · exact .inr ⟨e :: A, x, B, rfl, hx, fun y hy => by rcases List.mem_cons.1 hy with rfl | hy; exact he; exact hA y hy⟩

/-- Room is made: what is left, and the keys that go. -/
def wlk (lim : Int) : List K → Int → List K × List Int
  | [], _ => ([], [])
  | h :: r, t => if t ≤ lim then (h :: r, []) else if h.pin then (h :: (wlk lim r t).1, (wlk lim r t).2) else ((wlk lim r (t - h.val.size)).1, h.key :: (wlk lim r (t - h.val.size)).2)
theorem wlk_room (lim : Int) (l : List K) (t : Int) (h : t ≤ lim) : wlk lim l t = (l, []) := by
  cases l with
  | nil => rfl
  | cons e r => rw [wlk, if_pos h]
theorem wlk_pin (lim : Int) (e : K) (r : List K) (t : Int) (h : ¬ t ≤ lim) (hp : e.pin = true) : wlk lim (e :: r) t = (e :: (wlk lim r t).1, (wlk lim r t).2) := by
  rw [wlk, if_neg h, if_pos hp]
theorem wlk_go (lim : Int) (e : K) (r : List K) (t : Int) (h : ¬ t ≤ lim) (hp : e.pin = false) : wlk lim (e :: r) t = ((wlk lim r (t - e.val.size)).1, e.key :: (wlk lim r (t - e.val.size)).2) := by
  rw [wlk, if_neg h, if_neg (by simp [hp])]
theorem wlk_pins (lim : Int) : ∀ (P R : List K) (t : Int), (∀ e ∈ P, e.pin = true) → wlk lim (P ++ R) t = (P ++ (wlk lim R t).1, (wlk lim R t).2)
  | [], R, t, _ => rfl
  | e :: P, R, t, h => by
    by_cases ht : t ≤ lim
    · rw [wlk_room _ _ _ ht, wlk_room _ _ _ ht]
    · rw [List.cons_append, wlk_pin _ _ _ _ ht (h e (by simp)), wlk_pins lim P R t (fun e he => h e (by simp [he]))]
      rfl
theorem wlk_loose (lim : Int) (P R : List K) (e : K) (t : Int) (hP : ∀ e ∈ P, e.pin = true) (he : e.pin = false) (ht : ¬ t ≤ lim) :
    wlk lim (P ++ e :: R) t = ((wlk lim (P ++ R) (t - e.val.size)).1, e.key :: (wlk lim (P ++ R) (t - e.val.size)).2) := by
  rw [wlk_pins lim P _ t hP, wlk_go _ _ _ _ ht he, wlk_pins lim P R _ hP]
theorem wlk_all (lim : Int) (P : List K) (t : Int) (hP : ∀ e ∈ P, e.pin = true) : wlk lim P t = (P, []) := by
  have := wlk_pins lim P [] t hP
  rw [List.append_nil] at this
  rw [this]
  simp [wlk]
theorem wlk_sub (lim : Int) : ∀ (l : List K) (t : Int), (wlk lim l t).1.Sublist l
  | [], t => by simp [wlk]
  | e :: r, t => by
    by_cases ht : t ≤ lim
    · rw [wlk_room _ _ _ ht]; exact List.Sublist.refl _
    · cases hp : e.pin
      · rw [wlk_go _ _ _ _ ht hp]; exact (wlk_sub lim r _).cons _
      · rw [wlk_pin _ _ _ _ ht hp]; exact (wlk_sub lim r _).cons_cons _
/-- What is pinned stays. -/
theorem wlk_stay (lim : Int) : ∀ (l : List K) (t : Int), ∀ e ∈ l, e.pin = true → e ∈ (wlk lim l t).1
  | [], t, e, h, _ => by simp at h
  | x :: r, t, e, h, hp => by
    by_cases ht : t ≤ lim
    · rw [wlk_room _ _ _ ht]; exact h
    · cases hx : x.pin
      · rw [wlk_go _ _ _ _ ht hx]
        rcases List.mem_cons.1 h with rfl | h
        · rw [hp] at hx; cases hx
        · exact wlk_stay lim r _ e h hp
      · rw [wlk_pin _ _ _ _ ht hx]
        rcases List.mem_cons.1 h with rfl | h
        · simp
        · exact List.mem_cons_of_mem _ (wlk_stay lim r _ e h hp)
/-- What goes was not pinned. -/
theorem wlk_gone (lim : Int) : ∀ (l : List K) (t : Int), ∀ k ∈ (wlk lim l t).2, ∃ e ∈ l, e.key = k ∧ e.pin = false
  | [], t, k, h => by simp [wlk] at h
  | x :: r, t, k, h => by
    by_cases ht : t ≤ lim
    · rw [wlk_room _ _ _ ht] at h; simp at h
    · cases hx : x.pin
      · rw [wlk_go _ _ _ _ ht hx] at h
        rcases List.mem_cons.1 h with rfl | h
        · exact ⟨x, by simp, rfl, hx⟩
        · obtain ⟨e, he, h1, h2⟩ := wlk_gone lim r _ k h
          exact ⟨e, by simp [he], h1, h2⟩
      · rw [wlk_pin _ _ _ _ ht hx] at h
        obtain ⟨e, he, h1, h2⟩ := wlk_gone lim r _ k h
        exact ⟨e, by simp [he], h1, h2⟩
theorem wlk_len (lim : Int) : ∀ (l : List K) (t : Int), (wlk lim l t).2.length + (wlk lim l t).1.length = l.length
  | [], t => by simp [wlk]
  | x :: r, t => by
    by_cases ht : t ≤ lim
    · rw [wlk_room _ _ _ ht]; simp
    · cases hx : x.pin
      · rw [wlk_go _ _ _ _ ht hx]; have := wlk_len lim r (t - x.val.size); simp; omega
      · rw [wlk_pin _ _ _ _ ht hx]; have := wlk_len lim r t; simp; omega
/-- If nothing is pinned there is room in the end. -/
theorem wlk_free (lim : Int) : ∀ (l : List K) (t : Int), 0 ≤ lim → (∀ e ∈ l, e.pin = false) → t ≤ bytes l → (bytes (wlk lim l t).1 : Int) ≤ max lim (bytes l - t + lim)
  | [], t, h0, _, ht => by simp [wlk, bytes]; omega
  | x :: r, t, h0, hp, ht => by
    by_cases hl : t ≤ lim
    · rw [wlk_room _ _ _ hl]
      show ((bytes (x :: r) : Nat) : Int) ≤ _
      omega
    · rw [wlk_go _ _ _ _ hl (hp x (by simp))]
      have := wlk_free lim r (t - x.val.size) h0 (fun e he => hp e (by simp [he])) (by rw [bytes] at ht; omega)
      rw [bytes]
      show ((bytes (wlk lim r (t - x.val.size)).1 : Nat) : Int) ≤ _
      omega
theorem wlk_fits (lim : Int) (l : List K) (h0 : 0 ≤ lim) (hp : ∀ e ∈ l, e.pin = false) : (bytes (wlk lim l (bytes l)).1 : Int) ≤ lim := by
  have := wlk_free lim l (bytes l) h0 hp (Int.le_refl _)
  omega

/-- A value is put: what is kept then, and the keys that go. -/
def put (most : Int) (l : List K) (k : Int) (v : ByteArray) : List K × List Int :=
  if most < v.size then (drp l k, []) else
    if (bytes (wlk (most - v.size) (drp l k) (bytes (drp l k))).1 : Int) ≤ most - v.size then ((wlk (most - v.size) (drp l k) (bytes (drp l k))).1 ++ [⟨k, v, false⟩], (wlk (most - v.size) (drp l k) (bytes (drp l k))).2)
    else wlk (most - v.size) (drp l k) (bytes (drp l k))
/-- A value is got: it is the last then. -/
def got (l : List K) (k : Int) : List K := match l[fnd l k]? with
  | some x => drp l k ++ [x]
  | none => l
def val (l : List K) (k : Int) : ByteArray := match l[fnd l k]? with
  | some x => x.val
  | none => ByteArray.empty
theorem got_at (A B : List K) (x : K) (hA : ∀ e ∈ A, e.key ≠ x.key) : got (A ++ x :: B) x.key = A ++ B ++ [x] ∧ val (A ++ x :: B) x.key = x.val := by
  unfold got val
  rw [fnd_at A B x hA, drp_at A B x hA]
  simp
theorem got_no (l : List K) (k : Int) (h : ∀ e ∈ l, e.key ≠ k) : got l k = l ∧ val l k = ByteArray.empty := by
  unfold got val
  rw [fnd_no l k h]
  simp
/-- A pin, or none. -/
def pnd (l : List K) (k : Int) (on : Bool) : List K := match l[fnd l k]? with
  | some x => l.set (fnd l k) ⟨x.key, x.val, on⟩
  | none => l
theorem pnd_at (A B : List K) (x : K) (on : Bool) (hA : ∀ e ∈ A, e.key ≠ x.key) : pnd (A ++ x :: B) x.key on = A ++ ⟨x.key, x.val, on⟩ :: B := by
  unfold pnd
  rw [fnd_at A B x hA]
  simp
theorem pnd_no (l : List K) (k : Int) (on : Bool) (h : ∀ e ∈ l, e.key ≠ k) : pnd l k on = l := by
  unfold pnd
  rw [fnd_no l k h]
  simp

/-- What holds of all that is kept. -/
structure G (most : Int) (l : List K) : Prop where
  kd : (l.map (·.key)).Nodup
  le : (bytes l : Int) ≤ most
theorem G.ne {most : Int} {A B : List K} {x : K} (h : G most (A ++ x :: B)) : (∀ e ∈ A, e.key ≠ x.key) ∧ ∀ e ∈ B, e.key ≠ x.key := by
  have := h.kd
  rw [List.map_append, List.map_cons, List.nodup_append] at this
  obtain ⟨h1, h2, h3⟩ := this
  rw [List.nodup_cons] at h2
  exact ⟨fun e he => h3 _ (List.mem_map_of_mem he) _ (by simp), fun e he hh => h2.1 (by rw [← hh]; exact List.mem_map_of_mem he)⟩
theorem G.sub {most : Int} {l q : List K} (h : G most l) (hs : q.Sublist l) : G most q := by
  refine ⟨(hs.map _).nodup h.kd, Int.le_trans ?_ h.le⟩
  have : ∀ {q l : List K}, q.Sublist l → bytes q ≤ bytes l := by
    intro q l hs
    induction hs with
    | slnil => exact Nat.le_refl _
    | cons a _ ih => rw [bytes]; omega
    | cons_cons a _ ih => rw [bytes, bytes]; omega
  have := this hs
  omega
theorem drp_sub (l : List K) (k : Int) : (drp l k).Sublist l := List.eraseIdx_sublist _ _
theorem drp_ne {most : Int} {l : List K} (h : G most l) (k : Int) : ∀ e ∈ drp l k, e.key ≠ k := by
  rcases split_or l k with hn | ⟨A, x, B, rfl, rfl, hA⟩
  · rw [drp_no l k hn]; exact hn
  · rw [drp_at A B x hA]
    intro e he
    rcases List.mem_append.1 he with he | he
    · exact hA e he
    · exact h.ne.2 e he
theorem nodup_snoc {l : List K} {x : K} (h : (l.map (·.key)).Nodup) (hx : ∀ e ∈ l, e.key ≠ x.key) : ((l ++ [x]).map (·.key)).Nodup := by
  rw [List.map_append, List.nodup_append]
  refine ⟨h, by simp, fun a ha b hb => ?_⟩
  obtain ⟨e, he, rfl⟩ := List.mem_map.1 ha
  simp at hb
  subst hb
  exact hx e he
theorem G.put {most : Int} {l : List K} (h : G most l) (k : Int) (v : ByteArray) : G most (put most l k v).1 := by
  unfold M.put
  split
  · exact h.sub (drp_sub l k)
  · split
    · rename_i h1 h2
      have hs := wlk_sub (most - v.size) (drp l k) (bytes (drp l k))
      refine ⟨nodup_snoc ((h.sub (drp_sub l k)).sub hs).kd (fun e he => drp_ne h k e (hs.subset he)), ?_⟩
      rw [bytes_app, bytes_one]
      simp only at h2 ⊢
      omega
    · exact (h.sub (drp_sub l k)).sub (wlk_sub _ _ _)
theorem bytes_perm (A B : List K) (x : K) : bytes (A ++ B ++ [x]) = bytes (A ++ x :: B) := by
  rw [bytes_mid A B, bytes_app (A ++ B), bytes_one]
theorem G.got {most : Int} {l : List K} (h : G most l) (k : Int) : G most (got l k) := by
  rcases split_or l k with hn | ⟨A, x, B, rfl, rfl, hA⟩
  · rw [(got_no l k hn).1]; exact h
  · rw [(got_at A B x hA).1]
    refine ⟨nodup_snoc ((h.sub (q := A ++ B) ((List.Sublist.refl A).append (List.sublist_cons_self x B)))).kd (fun e he => ?_), by rw [bytes_perm]; exact h.le⟩
    rcases List.mem_append.1 he with he | he
    · exact hA e he
    · exact h.ne.2 e he
theorem G.pnd {most : Int} {l : List K} (h : G most l) (k : Int) (on : Bool) : G most (pnd l k on) := by
  rcases split_or l k with hn | ⟨A, x, B, rfl, rfl, hA⟩
  · rw [pnd_no l k on hn]; exact h
  · rw [pnd_at A B x on hA]
    refine ⟨?_, ?_⟩
    · have := h.kd
      simpa using this
    · have := h.le
      rw [bytes_mid] at this ⊢
      exact this
theorem G.drp {most : Int} {l : List K} (h : G most l) (k : Int) : G most (drp l k) := h.sub (drp_sub l k)
theorem drp_mem {l : List K} {k : Int} {e : K} (he : e ∈ l) (hk : e.key ≠ k) : e ∈ drp l k := by
  rcases split_or l k with hn | ⟨A, x, B, rfl, rfl, hA⟩
  · rw [drp_no l k hn]; exact he
  · rw [drp_at A B x hA]
    rcases List.mem_append.1 he with he | he
    · exact List.mem_append_left _ he
    · rcases List.mem_cons.1 he with rfl | he
      · exact absurd rfl hk
      · exact List.mem_append_right _ he
theorem drp_len (l : List K) (k : Int) : (drp l k).length ≤ l.length := (drp_sub l k).length_le
theorem put_len (most : Int) (l : List K) (k : Int) (v : ByteArray) : (put most l k v).1.length ≤ l.length + 1 ∧ (put most l k v).2.length ≤ l.length := by
  have h1 := drp_len l k
  have h2 := wlk_len (most - v.size) (drp l k) (bytes (drp l k))
  unfold put
  split
  · exact ⟨Nat.le_succ_of_le h1, by simp⟩
  · split
    · refine ⟨?_, ?_⟩
      · rw [List.length_append, List.length_singleton]; omega
      · show (wlk (most - v.size) (drp l k) (bytes (drp l k))).2.length ≤ _; omega
    · exact ⟨by omega, by omega⟩
theorem got_len (l : List K) (k : Int) : (got l k).length ≤ l.length := by
  rcases split_or l k with hn | ⟨A, x, B, rfl, rfl, hA⟩
  · rw [(got_no l k hn).1]; exact Nat.le_refl _
  · rw [(got_at A B x hA).1]; simp
theorem pnd_len (l : List K) (k : Int) (on : Bool) : (pnd l k on).length = l.length := by
  unfold pnd
  split
  · simp
  · rfl
theorem put_long (most : Int) (l : List K) (k : Int) (v : ByteArray) (h : most < v.size) : put most l k v = (drp l k, []) := by unfold put; rw [if_pos h]
/-- If nothing is pinned, a value that is not too long is kept. -/
theorem put_fits {most : Int} {l : List K} (h : G most l) (hp : ∀ e ∈ l, e.pin = false) (k : Int) (v : ByteArray) (hv : (v.size : Int) ≤ most) :
    ∃ X, (put most l k v).1 = X ++ [⟨k, v, false⟩] ∧ (∀ e ∈ X, e.key ≠ k) ∧ ∀ e ∈ X, e.pin = false := by
  have hs := wlk_sub (most - v.size) (drp l k) (bytes (drp l k))
  have hf := wlk_fits (most - v.size) (drp l k) (by omega) (fun e he => hp e ((drp_sub l k).subset he))
  refine ⟨(wlk (most - v.size) (drp l k) (bytes (drp l k))).1, ?_, fun e he => drp_ne h k e (hs.subset he), fun e he => hp e ((drp_sub l k).subset (hs.subset he))⟩
  unfold put
  rw [if_neg (by omega), if_pos hf]
/-- What goes was not pinned, and was kept, under another key. -/
theorem put_gone {most : Int} {l : List K} (h : G most l) (k : Int) (v : ByteArray) : ∀ j ∈ (put most l k v).2, j ≠ k ∧ ∃ e ∈ l, e.key = j ∧ e.pin = false := by
  have key : ∀ j ∈ (wlk (most - v.size) (drp l k) (bytes (drp l k))).2, j ≠ k ∧ ∃ e ∈ l, e.key = j ∧ e.pin = false := by
    intro j hj
    obtain ⟨e, he, h1, h2⟩ := wlk_gone _ _ _ j hj
    exact ⟨by rw [← h1]; exact drp_ne h k e he, e, (drp_sub l k).subset he, h1, h2⟩
  unfold put
  split
  · intro j hj; simp at hj
  · split
    · exact key
    · exact key
/-- What is pinned under another key stays. -/
theorem put_stay {most : Int} {l : List K} (h : G most l) (k : Int) (v : ByteArray) : ∀ e ∈ l, e.pin = true → e.key ≠ k → e ∈ (put most l k v).1 := by
  intro e he hp hk
  have hd : e ∈ drp l k := drp_mem he hk
  unfold put
  split
  · exact hd
  · split
    · exact List.mem_append_left _ (wlk_stay _ _ _ e hd hp)
    · exact wlk_stay _ _ _ e hd hp
theorem G.uniq {most : Int} {l : List K} (h : G most l) {a b : K} (ha : a ∈ l) (hb : b ∈ l) (hk : a.key = b.key) : a = b := by
  rcases split_or l a.key with hn | ⟨A, x, B, rfl, hx, hA⟩
  · exact absurd rfl (hn a ha)
  · have hne := h.ne
    have key : ∀ y ∈ A ++ x :: B, y.key = a.key → y = x := by
      intro y hy hya
      rcases List.mem_append.1 hy with hy | hy
      · exact absurd hya (hA y hy)
      · rcases List.mem_cons.1 hy with rfl | hy
        · rfl
        · exact absurd (hya.trans hx.symm) (hne.2 y hy)
    rw [key a ha rfl, key b hb hk.symm]
theorem has_false {l : List K} {k : Int} (h : has l k = false) : ∀ e ∈ l, e.key ≠ k := by
  rcases split_or l k with hn | ⟨A, x, B, rfl, rfl, hA⟩
  · exact hn
  · rw [has_at A B x hA] at h; cases h
/-- Behind a pin: the key's entry is pinned, or not; the others are as they were. -/
theorem pnd_mem {l : List K} {k : Int} {on : Bool} (h : has l k = true) : ∃ e ∈ pnd l k on, e.key = k ∧ e.pin = on := by
  rcases split_or l k with hn | ⟨A, x, B, rfl, rfl, hA⟩
  · rw [has_no l k hn] at h; cases h
  · rw [pnd_at A B x on hA]
    exact ⟨⟨x.key, x.val, on⟩, by simp, rfl, rfl⟩
theorem pnd_other {l : List K} {k : Int} {on : Bool} {e : K} (he : e ∈ l) (hk : e.key ≠ k) : e ∈ pnd l k on := by
  rcases split_or l k with hn | ⟨A, x, B, rfl, rfl, hA⟩
  · rw [pnd_no l k on hn]; exact he
  · rw [pnd_at A B x on hA]
    rcases List.mem_append.1 he with he | he
    · exact List.mem_append_left _ he
    · rcases List.mem_cons.1 he with rfl | he
      · exact absurd rfl hk
      · exact List.mem_append_right _ (List.mem_cons_of_mem _ he)
end Go.Proofs.Ytpfmdchmgaaakaa.M
