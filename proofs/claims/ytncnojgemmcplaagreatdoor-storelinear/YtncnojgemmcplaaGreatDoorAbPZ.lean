/-
  Chapter 17 in plain Lean: registers by quorums; what is kept whatever is moved.
  Chapter 17 in plain Lean: what is kept by every move of registers by quorums that meet.
  Chapter 17 in plain Lean: registers by quorums that meet: each move keeps what is kept.
  Chapter 17 in plain Lean: registers by quorums that meet: what is heard keeps what is kept.
  An order of ops of several registers out of points in time and stamps, in plain Lean.
  Chapter 17 in plain Lean: what is seen of registers by quorums that meet, whose readers tell, can have taken place one by one.
-/

namespace Go.Proofs.YtncnojgemmcplaaGreatDoor

/-- A stamp. -/
structure Smp where
  t : Int
  c : Int
def Smp.le (a b : Smp) : Prop := a.t < b.t ∨ (a.t = b.t ∧ a.c ≤ b.c)
def Smp.lt (a b : Smp) : Prop := a.t < b.t ∨ (a.t = b.t ∧ a.c < b.c)
instance (a b : Smp) : Decidable (a.le b) := by unfold Smp.le; infer_instance
instance (a b : Smp) : Decidable (a.lt b) := by unfold Smp.lt; infer_instance
theorem Smp.ext' {a b : Smp} (h1 : a.t = b.t) (h2 : a.c = b.c) : a = b := by cases a; cases b; simp at h1 h2; rw [h1, h2]
theorem Smp.le_refl (a : Smp) : a.le a := .inr ⟨rfl, Int.le_refl _⟩
theorem Smp.le_trans {a b c : Smp} (h : a.le b) (h' : b.le c) : a.le c := by unfold Smp.le at *; omega
theorem Smp.lt_le {a b : Smp} (h : a.lt b) : a.le b := by unfold Smp.le Smp.lt at *; omega
theorem Smp.not_le {a b : Smp} : ¬ a.le b ↔ b.lt a := by unfold Smp.le Smp.lt; omega
theorem Smp.not_lt {a b : Smp} : ¬ a.lt b ↔ b.le a := by unfold Smp.le Smp.lt; omega
theorem Smp.lt_irrefl (a : Smp) : ¬ a.lt a := by unfold Smp.lt; omega
theorem Smp.lt_of_le_lt {a b c : Smp} (h : a.le b) (h' : b.lt c) : a.lt c := by unfold Smp.le Smp.lt at *; omega
theorem Smp.anti {a b : Smp} (h : a.le b) (h' : b.le a) : a = b := by unfold Smp.le at *; exact Smp.ext' (by omega) (by omega)
theorem Smp.eq_or_lt {a b : Smp} (h : a.le b) : a = b ∨ a.lt b := by
  by_cases e : b.le a
  · exact .inl (Smp.anti h e)
  · exact .inr (Smp.not_le.1 e)

/-- A value and its stamp; a letter; a mail; a client; what is seen. -/
structure Hd where
  s : Smp
  v : Int
structure Ltr where
  c : Int
  key : Int
  rd : Int
  tells : Bool
  h : Hd
structure Ml where
  fr : Int
  to : Int
  l : Ltr
structure Cl where
  busy : Bool
  gone : Bool
  write : Bool
  tells : Bool
  key : Int
  value : Int
  rd : Int
  kept : Hd
  cnt : List Int
/-- typ: 1 an Invoke, 2 an Ok, 4 an Info. -/
structure Sn where
  proc : Int
  typ : Int
  key : Int
  write : Bool
  a : Int
  res : Int
  at_ : Smp
structure Sto where
  n : Nat
  k : Nat
  ask : Nat
  tell : Nat
  back : Bool
  links : Int → Int → Bool
  mails : List Ml
  has : Int → Int → Hd
  cl : Int → Cl
  seen : List Sn
def updC (f : Int → Cl) (c : Int) (x : Cl) : Int → Cl := fun d => if d = c then x else f d
theorem updC_same (f : Int → Cl) (c : Int) (x : Cl) : updC f c x c = x := if_pos rfl
theorem updC_ne (f : Int → Cl) {c d : Int} (x : Cl) (h : d ≠ c) : updC f c x d = f d := if_neg h
def hd0 : Hd := ⟨⟨0, -1⟩, 0⟩
def hdN : Hd := ⟨⟨-1, -1⟩, 0⟩
def zeroS : Smp := ⟨0, 0⟩

/-- What is sent: lost where the net is full. -/
def sendL (l : List Ml) (m : Ml) : List Ml := if l.length < 500 then l ++ [m] else l
def sendAll (l : List Ml) (n : Nat) (c : Int) (x : Cl) : List Ml := (List.range n).foldl (fun l (j : Nat) => sendL l ⟨n + c, j, ⟨c, x.key, x.rd, x.tells, x.kept⟩⟩) l
/-- A client asks or tells anew. -/
def roundC (x : Cl) : Cl := { x with rd := x.rd + 1, cnt := [] }
def roundS (S : Sto) (c : Int) (x : Cl) : Sto := { S with cl := updC S.cl c (roundC x), mails := sendAll S.mails S.n c (roundC x) }
def snOf (c : Int) (x : Cl) (typ res : Int) (at_ : Smp) : Sn := ⟨c, typ, x.key, x.write, if x.write then x.value else 0, res, at_⟩
def beginC (x : Cl) (key : Int) (write : Bool) (value : Int) : Cl := { x with busy := true, write := write, tells := false, key := key, value := value, kept := hdN }
def beginS (S : Sto) (c key : Int) (write : Bool) (value : Int) : Sto :=
  roundS { S with seen := S.seen ++ [snOf c (beginC (S.cl c) key write value) 1 0 zeroS] } c (beginC (S.cl c) key write value)
def giveS (S : Sto) (c : Int) : Sto := { S with seen := S.seen ++ [snOf c (S.cl c) 4 0 zeroS], cl := updC S.cl c { S.cl c with busy := false, gone := true } }
/-- A node hears. -/
def nodeH (own : Hd) (l : Ltr) : Hd := if l.tells = true ∧ own.s.lt l.h.s then l.h else own
def updH (f : Int → Int → Hd) (j key : Int) (h : Hd) : Int → Int → Hd := fun a b => if a = j ∧ b = key then h else f a b
def nodeS (S : Sto) (m : Ml) : Sto :=
  { S with has := updH S.has m.to m.l.key (nodeH (S.has m.to m.l.key) m.l), mails := sendL S.mails ⟨m.to, m.fr, { m.l with h := nodeH (S.has m.to m.l.key) m.l }⟩ }
/-- A client hears. -/
def countC (x : Cl) (node : Int) (h : Hd) : Cl := { x with cnt := x.cnt ++ [node], kept := if x.tells = false ∧ x.kept.s.lt h.s then h else x.kept }
def tellC (c : Int) (x : Cl) : Cl := { x with kept := if x.write then ⟨⟨x.kept.s.t + 1, c⟩, x.value⟩ else x.kept, tells := true }
def doneS (S : Sto) (c : Int) (x : Cl) : Sto := { S with seen := S.seen ++ [snOf c x 2 (if x.write then 0 else x.kept.v) x.kept.s], cl := updC S.cl c { x with busy := false } }
def hearS (S : Sto) (c node : Int) (l : Ltr) : Sto :=
  let x := S.cl c
  if x.busy = true ∧ l.rd = x.rd ∧ node ∉ x.cnt then
    let y := countC x node l.h
    if y.cnt.length < (if x.tells then S.tell else S.ask) then { S with cl := updC S.cl c y }
    else if x.tells = false ∧ (x.write = true ∨ S.back = true) then roundS S c (tellC c y)
    else doneS S c y
  else S
/-- What is heard, when mail m is taken off. -/
def takeS (S : Sto) (m : Ml) : Sto := if m.to < S.n then nodeS S m else hearS S (m.to - S.n) m.fr m.l
end Go.Proofs.YtncnojgemmcplaaGreatDoor

namespace Go.Proofs.YtncnojgemmcplaaGreatDoor

/-- A write that was told; what was done. -/
structure Tw where
  key : Int
  s : Smp
  v : Int
  c : Int
  bg : Nat
structure Rc where
  bg : Nat
  ok : Nat
  c : Int
  key : Int
  write : Bool
  s : Smp
  v : Int
/-- What no one sees: when a stamp had reached enough nodes (how much was seen then); what the nodes had when a client began; where it began; the writes that were told; what was done. -/
structure Gho where
  p : Int → Smp → Option Nat
  sn : Int → Int → Smp
  bg : Int → Nat
  T : List Tw
  R : List Rc

def quoB (n tell : Nat) (f : Int → Smp) (s : Smp) : Prop := tell ≤ (List.range n).countP fun (j : Nat) => decide (s.le (f j))
theorem quoB.mono {n tell : Nat} {f g : Int → Smp} {s s' : Smp} (h : quoB n tell f s) (hs : s'.le s) (hg : ∀ j, (f j).le (g j)) : quoB n tell g s' := by
  refine Nat.le_trans h (List.countP_mono_left fun j _ hj => ?_)
  exact decide_eq_true (Smp.le_trans hs (Smp.le_trans (of_decide_eq_true hj) (hg j)))
/-- Nodes' stamps of a key. -/
def Sto.st (S : Sto) (key : Int) : Int → Smp := fun j => (S.has j key).s

theorem nodup_len {α : Type} [DecidableEq α] : ∀ {l m : List α}, l.Nodup → (∀ x ∈ l, x ∈ m) → l.length ≤ m.length
  | [], _, _, _ => Nat.zero_le _
  | a :: l, m, hn, hs => by
    rw [List.nodup_cons] at hn
    have h1 := nodup_len (m := m.erase a) hn.2 fun x hx => (List.mem_erase_of_ne (fun (e : x = a) => hn.1 (by rw [← e]; exact hx))).2 (hs x (List.mem_cons_of_mem _ hx))
    have h2 := List.length_erase_of_mem (hs a List.mem_cons_self)
    have h3 : 0 < m.length := List.length_pos_of_mem (hs a List.mem_cons_self)
    simp only [List.length_cons]
    omega
/-- Those who are counted meet those who have it. -/
theorem quo_meets {n tell ask : Nat} {f : Int → Smp} {s : Smp} {cnt : List Int} (h : quoB n tell f s) (hc : n < ask + tell) (hl : ask ≤ cnt.length) (hn : cnt.Nodup) (hin : ∀ j ∈ cnt, 0 ≤ j ∧ j < n) : ∃ j ∈ cnt, s.le (f j) := by
  apply Classical.byContradiction
  intro hno
  have hno' : ∀ j ∈ cnt, ¬ s.le (f j) := fun j hj h => hno ⟨j, hj, h⟩
  have hq : (List.range n).countP (fun (j : Nat) => decide (s.le (f j))) = ((List.range n).filter fun (j : Nat) => decide (s.le (f j))).length := List.countP_eq_length_filter
  unfold quoB at h
  rw [hq] at h
  have hle := nodup_len (l := cnt ++ ((List.range n).filter fun (j : Nat) => decide (s.le (f j))).map (fun (j : Nat) => (j : Int))) (m := (List.range n).map (fun (j : Nat) => (j : Int))) ?_ ?_
  · simp at hle
    omega
  · rw [List.nodup_append]
    refine ⟨hn, ?_, ?_⟩
    · have hnd : ((List.range n).filter fun (j : Nat) => decide (s.le (f j))).Nodup := List.Pairwise.filter _ List.nodup_range
      exact List.pairwise_map.2 (hnd.imp fun hne e => hne (by omega))
    · intro a ha b hb e
      subst e
      obtain ⟨j, hj, rfl⟩ := List.mem_map.1 hb
      exact hno' _ ha (of_decide_eq_true (List.mem_filter.1 hj).2)
  · intro x hx
    rcases List.mem_append.1 hx with hx | hx
    · obtain ⟨h1, h2⟩ := hin x hx
      exact List.mem_map.2 ⟨x.toNat, List.mem_range.2 (by omega), by omega⟩
    · obtain ⟨j, hj, rfl⟩ := List.mem_map.1 hx
      exact List.mem_map.2 ⟨j, (List.mem_filter.1 hj).1, rfl⟩
/-- Those who are counted are enough. -/
theorem quo_of_cnt {n tell : Nat} {f : Int → Smp} {s : Smp} {cnt : List Int} (hl : tell ≤ cnt.length) (hn : cnt.Nodup) (hin : ∀ j ∈ cnt, 0 ≤ j ∧ j < n) (h : ∀ j ∈ cnt, s.le (f j)) : quoB n tell f s := by
  unfold quoB
  rw [List.countP_eq_length_filter]
  refine Nat.le_trans hl ?_
  have := nodup_len (l := cnt) (m := ((List.range n).filter fun (j : Nat) => decide (s.le (f j))).map (fun (j : Nat) => (j : Int))) hn ?_
  · simpa using this
  · intro x hx
    obtain ⟨h1, h2⟩ := hin x hx
    refine List.mem_map.2 ⟨x.toNat, List.mem_filter.2 ⟨List.mem_range.2 (by omega), ?_⟩, by omega⟩
    have : ((x.toNat : Nat) : Int) = x := by omega
    rw [this]
    exact decide_eq_true (h x hx)

/-- A value that may be: nobody wrote, or one told it. -/
def VOk (T : List Tw) (key : Int) (h : Hd) : Prop := (h.s = ⟨0, -1⟩ ∧ h.v = 0) ∨ ∃ e ∈ T, e.key = key ∧ e.s = h.s ∧ e.v = h.v
theorem VOk.mono {T T' : List Tw} {key : Int} {h : Hd} (hv : VOk T key h) (hT : ∀ e ∈ T, e ∈ T') : VOk T' key h := hv.imp id fun ⟨e, he, h1⟩ => ⟨e, hT e he, h1⟩

/-- A mail is to its client's round, or to an elder one. -/
structure MailOk (S : Sto) (G : Gho) (m : Ml) : Prop where
  cl : 0 ≤ m.l.c
  rd : m.l.rd ≤ (S.cl m.l.c).rd
  way : (0 ≤ m.to ∧ m.to < S.n ∧ m.fr = S.n + m.l.c) ∨ (m.to = S.n + m.l.c ∧ 0 ≤ m.fr ∧ m.fr < S.n)
  val : m.l.tells = true ∨ S.n ≤ m.to → VOk G.T m.l.key m.l.h
  cur : (S.cl m.l.c).busy = true → m.l.rd = (S.cl m.l.c).rd → m.l.key = (S.cl m.l.c).key ∧ m.l.tells = (S.cl m.l.c).tells ∧
    (m.to < S.n → (S.cl m.l.c).tells = true → m.l.h = (S.cl m.l.c).kept) ∧
    (S.n ≤ m.to → (S.cl m.l.c).tells = false → (G.sn m.l.c m.fr).le m.l.h.s) ∧
    (S.n ≤ m.to → (S.cl m.l.c).tells = true → (S.cl m.l.c).kept.s.le (S.st (S.cl m.l.c).key m.fr))

/-- A client that is at something. -/
structure ClOk (S : Sto) (G : Gho) (c : Int) (x : Cl) : Prop where
  lo : 0 ≤ c
  bg : G.bg c < S.seen.length
  inv : S.seen[G.bg c]? = some (snOf c x 1 0 zeroS)
  past : ∀ r ∈ G.R, r.c = c → r.ok < G.bg c
  nd : x.cnt.Nodup
  inn : ∀ j ∈ x.cnt, 0 ≤ j ∧ j < S.n
  asnap : x.tells = false → ∀ s L, G.p x.key s = some L → L ≤ G.bg c → quoB S.n S.tell (G.sn c) s
  amin : x.tells = false → ∀ j, (G.sn c j).le (S.st x.key j)
  acnt : x.tells = false → ∀ j ∈ x.cnt, (G.sn c j).le x.kept.s
  aval : x.tells = false → x.cnt = [] ∧ x.kept = hdN ∨ VOk G.T x.key x.kept
  tp : x.tells = true → ∀ s L, G.p x.key s = some L → L ≤ G.bg c → s.le x.kept.s ∧ (x.write = true → s ≠ x.kept.s)
  tcnt : x.tells = true → ∀ j ∈ x.cnt, x.kept.s.le (S.st x.key j)
  tval : x.tells = true → VOk G.T x.key x.kept
  tw : x.tells = true → x.write = true → (⟨x.key, x.kept.s, x.value, c, G.bg c⟩ : Tw) ∈ G.T ∧ x.kept.v = x.value

structure TwOk (S : Sto) (G : Gho) (e : Tw) : Prop where
  hi : 1 ≤ e.s.t
  c : e.s.c = e.c
  lo : 0 ≤ e.c
  bg : e.bg < S.seen.length
  inv : S.seen[e.bg]? = some ⟨e.c, 1, e.key, true, e.v, 0, zeroS⟩
  late : ∀ L, G.p e.key e.s = some L → e.bg < L
  end_ : (∃ r ∈ G.R, r.write = true ∧ r.bg = e.bg ∧ r.c = e.c ∧ r.key = e.key ∧ r.s = e.s ∧ r.v = e.v) ∨ (S.cl e.c).gone = true ∨ ((S.cl e.c).busy = true ∧ (S.cl e.c).tells = true ∧ (S.cl e.c).write = true ∧ (S.cl e.c).key = e.key ∧ (S.cl e.c).kept.s = e.s ∧ G.bg e.c = e.bg)

structure RcOk (S : Sto) (G : Gho) (r : Rc) : Prop where
  bg : r.bg < r.ok
  ok : r.ok < S.seen.length
  inv : S.seen[r.bg]? = some ⟨r.c, 1, r.key, r.write, if r.write then r.v else 0, 0, zeroS⟩
  at_ : S.seen[r.ok]? = some ⟨r.c, 2, r.key, r.write, if r.write then r.v else 0, if r.write then 0 else r.v, r.s⟩
  set_ : r.write = true ∨ S.back = true → ∃ L, G.p r.key r.s = some L ∧ L ≤ r.ok
  new : ∀ s L, G.p r.key s = some L → L ≤ r.bg → s.le r.s ∧ (r.write = true → s ≠ r.s)
  val : VOk G.T r.key ⟨r.s, r.v⟩
  tw : r.write = true → (⟨r.key, r.s, r.v, r.c, r.bg⟩ : Tw) ∈ G.T

structure SInv (S : Sto) (G : Gho) : Prop where
  ask : 1 ≤ S.ask
  tell : 1 ≤ S.tell
  cross : S.n < S.ask + S.tell
  p1 : ∀ key s L, G.p key s = some L → quoB S.n S.tell (S.st key) s ∧ L ≤ S.seen.length
  p2 : ∀ key s, quoB S.n S.tell (S.st key) s → ∃ L, G.p key s = some L
  p3 : ∀ key s s' L', s.le s' → G.p key s' = some L' → ∃ L, G.p key s = some L ∧ L ≤ L'
  mails : ∀ m ∈ S.mails, MailOk S G m
  idle : ∀ c, (S.cl c).busy = true → ClOk S G c (S.cl c)
  gone : ∀ c, (S.cl c).gone = true → (S.cl c).busy = false
  has : ∀ j key, VOk G.T key (S.has j key)
  T : ∀ e ∈ G.T, TwOk S G e
  one : ∀ e ∈ G.T, ∀ e' ∈ G.T, e.key = e'.key → e.s = e'.s → e = e'
  bgone : ∀ e ∈ G.T, ∀ e' ∈ G.T, e.bg = e'.bg → e = e'
  R : ∀ r ∈ G.R, RcOk S G r
end Go.Proofs.YtncnojgemmcplaaGreatDoor

namespace Go.Proofs.YtncnojgemmcplaaGreatDoor

/-- What a move leaves as it was. -/
structure ExtS (S S' : Sto) (G G' : Gho) : Prop where
  n : S'.n = S.n
  ask : S'.ask = S.ask
  tell : S'.tell = S.tell
  back : S'.back = S.back
  has : ∀ key j, (S.st key j).le (S'.st key j)
  T : ∀ e ∈ G.T, e ∈ G'.T
  R : ∀ r ∈ G.R, r ∈ G'.R
  p : ∀ key s L, G'.p key s = some L → G.p key s = some L ∨ S.seen.length ≤ L
  pk : ∀ key s L, G.p key s = some L → G'.p key s = some L
  len : S.seen.length ≤ S'.seen.length
  seen : ∀ i, i < S.seen.length → S'.seen[i]? = S.seen[i]?
section
variable {S S' : Sto} {G G' : Gho}
theorem MailOk.step (E : ExtS S S' G G') {m : Ml} (h : MailOk S G m) (hrd : (S.cl m.l.c).rd ≤ (S'.cl m.l.c).rd)
    (hc : (S'.cl m.l.c).busy = true → (S.cl m.l.c).rd = (S'.cl m.l.c).rd → (S.cl m.l.c).busy = true ∧ (S'.cl m.l.c).key = (S.cl m.l.c).key ∧ (S'.cl m.l.c).tells = (S.cl m.l.c).tells ∧ ((S.cl m.l.c).tells = true → (S'.cl m.l.c).kept = (S.cl m.l.c).kept) ∧ G'.sn m.l.c = G.sn m.l.c) : MailOk S' G' m := by
  refine ⟨h.cl, Int.le_trans h.rd hrd, by rw [E.n]; exact h.way, fun hv => (h.val (by rw [E.n] at hv; exact hv)).mono E.T, fun hb hr => ?_⟩
  have h1 := h.rd
  have hr' : (S.cl m.l.c).rd = (S'.cl m.l.c).rd := by omega
  obtain ⟨c1, c2, c3, c4, c5⟩ := hc hb hr'
  obtain ⟨d1, d2, d3, d4, d5⟩ := h.cur c1 (by omega)
  rw [E.n, c2, c3, c5]
  refine ⟨d1, d2, fun a b => by rw [c4 b]; exact d3 a b, d4, fun a b => ?_⟩
  rw [c4 b]
  exact Smp.le_trans (d5 a b) (E.has _ _)
theorem ClOk.step (E : ExtS S S' G G') {c : Int} {x : Cl} (h : ClOk S G c x) (hsn : G'.sn c = G.sn c) (hbg : G'.bg c = G.bg c) (hR : ∀ r ∈ G'.R, r.c = c → r ∈ G.R) : ClOk S' G' c x := by
  have hb := h.bg
  have old : ∀ s L, G'.p x.key s = some L → L ≤ G'.bg c → G.p x.key s = some L ∧ L ≤ G.bg c := fun s L hp hl => by
    rw [hbg] at hl
    rcases E.p _ s L hp with e | e
    · exact ⟨e, hl⟩
    · omega
  refine ⟨h.lo, by rw [hbg]; exact Nat.lt_of_lt_of_le hb E.len, by rw [hbg, E.seen _ hb]; exact h.inv, fun r hr e => by rw [hbg]; exact h.past r (hR r hr e) e, h.nd, by rw [E.n]; exact h.inn, fun t s L hp hl => ?_, fun t j => ?_, fun t j hj => ?_, fun t => (h.aval t).imp id fun v => v.mono E.T, fun t s L hp hl => ?_, fun t j hj => ?_, fun t => (h.tval t).mono E.T, fun t w => ?_⟩
  · obtain ⟨a, b⟩ := old s L hp hl
    rw [E.n, E.tell, hsn]; exact h.asnap t s L a b
  · rw [hsn]; exact Smp.le_trans (h.amin t j) (E.has _ _)
  · rw [hsn]; exact h.acnt t j hj
  · obtain ⟨a, b⟩ := old s L hp hl
    exact h.tp t s L a b
  · exact Smp.le_trans (h.tcnt t j hj) (E.has _ _)
  · rw [hbg]; exact ⟨E.T _ (h.tw t w).1, (h.tw t w).2⟩
theorem TwOk.step (E : ExtS S S' G G') {e : Tw} (h : TwOk S G e)
    (hend : (S.cl e.c).gone = true ∨ ((S.cl e.c).busy = true ∧ (S.cl e.c).tells = true ∧ (S.cl e.c).write = true ∧ (S.cl e.c).key = e.key ∧ (S.cl e.c).kept.s = e.s ∧ G.bg e.c = e.bg) →
      (∃ r ∈ G'.R, r.write = true ∧ r.bg = e.bg ∧ r.c = e.c ∧ r.key = e.key ∧ r.s = e.s ∧ r.v = e.v) ∨ (S'.cl e.c).gone = true ∨ ((S'.cl e.c).busy = true ∧ (S'.cl e.c).tells = true ∧ (S'.cl e.c).write = true ∧ (S'.cl e.c).key = e.key ∧ (S'.cl e.c).kept.s = e.s ∧ G'.bg e.c = e.bg)) : TwOk S' G' e := by
  have hb := h.bg
  refine ⟨h.hi, h.c, h.lo, Nat.lt_of_lt_of_le hb E.len, by rw [E.seen _ hb]; exact h.inv, fun L hp => ?_, ?_⟩
  · rcases E.p _ _ L hp with e | e
    · exact h.late L e
    · omega
  · rcases h.end_ with ⟨r, hr, h1⟩ | h1
    · exact .inl ⟨r, E.R r hr, h1⟩
    · exact hend h1
theorem RcOk.step (E : ExtS S S' G G') {r : Rc} (h : RcOk S G r) : RcOk S' G' r := by
  have h1 := h.bg
  have h2 := h.ok
  refine ⟨h1, Nat.lt_of_lt_of_le h2 E.len, by rw [E.seen _ (by omega)]; exact h.inv, by rw [E.seen _ h2]; exact h.at_, fun hw => ?_, fun s L hp hl => ?_, h.val.mono E.T, fun hw => E.T _ (h.tw hw)⟩
  · rw [E.back] at hw
    obtain ⟨L, a, b⟩ := h.set_ hw
    exact ⟨L, E.pk _ _ _ a, b⟩
  · rcases E.p _ _ L hp with e | e
    · exact h.new s L e hl
    · omega
end

/-- Nothing of the nodes turned: what is known of them stays. -/
theorem p_stays {S S' : Sto} {G : Gho} (h : SInv S G) (hn : S'.n = S.n) (ht : S'.tell = S.tell) (hh : S'.has = S.has) (hl : S.seen.length ≤ S'.seen.length) :
    (∀ key s L, G.p key s = some L → quoB S'.n S'.tell (S'.st key) s ∧ L ≤ S'.seen.length) ∧ (∀ key s, quoB S'.n S'.tell (S'.st key) s → ∃ L, G.p key s = some L) := by
  have e : ∀ key, S'.st key = S.st key := fun key => by unfold Sto.st; rw [hh]
  refine ⟨fun key s L hp => ?_, fun key s hq => ?_⟩
  · rw [hn, ht, e]
    exact ⟨(h.p1 key s L hp).1, Nat.le_trans (h.p1 key s L hp).2 hl⟩
  · rw [hn, ht, e] at hq
    exact h.p2 key s hq

theorem mem_sendL {l : List Ml} {m x : Ml} (h : x ∈ sendL l m) : x ∈ l ∨ x = m := by
  unfold sendL at h
  split at h
  · rcases List.mem_append.1 h with h | h
    · exact .inl h
    · exact .inr (List.mem_singleton.1 h)
  · exact .inl h
theorem mem_sendAll {l : List Ml} {n : Nat} {c : Int} {x : Cl} {m : Ml} (h : m ∈ sendAll l n c x) : m ∈ l ∨ ∃ j : Nat, j < n ∧ m = ⟨n + c, j, ⟨c, x.key, x.rd, x.tells, x.kept⟩⟩ := by
  unfold sendAll at h
  have key : ∀ (js : List Nat) (l : List Ml), m ∈ js.foldl (fun l (j : Nat) => sendL l ⟨n + c, j, ⟨c, x.key, x.rd, x.tells, x.kept⟩⟩) l → m ∈ l ∨ ∃ j ∈ js, m = ⟨n + c, j, ⟨c, x.key, x.rd, x.tells, x.kept⟩⟩ := by
    intro js
    induction js with
    | nil => intro l h; exact .inl h
    | cons j js ih =>
      intro l h
      rcases ih _ h with h | ⟨i, hi, e⟩
      · rcases mem_sendL h with h | h
        · exact .inl h
        · exact .inr ⟨j, List.mem_cons_self, h⟩
      · exact .inr ⟨i, List.mem_cons_of_mem _ hi, e⟩
  rcases key _ _ h with h | ⟨j, hj, e⟩
  · exact .inl h
  · exact .inr ⟨j, List.mem_range.1 hj, e⟩

/-- Fewer mails, or some of them twice; other links. -/
theorem SInv.less {S : Sto} {G : Gho} (h : SInv S G) {ms : List Ml} (hm : ∀ m ∈ ms, m ∈ S.mails) (lk : Int → Int → Bool) : SInv { S with mails := ms, links := lk } G := by
  have E : ExtS S { S with mails := ms, links := lk } G G := ⟨rfl, rfl, rfl, rfl, fun _ _ => Smp.le_refl _, fun _ h => h, fun _ h => h, fun _ _ _ h => .inl h, fun _ _ _ h => h, Nat.le_refl _, fun _ _ => rfl⟩
  refine ⟨h.ask, h.tell, h.cross, h.p1, h.p2, h.p3, fun m hm' => (h.mails m (hm m hm')).step E (Int.le_refl _) fun hb _ => ⟨hb, rfl, rfl, fun _ => rfl, rfl⟩, fun c hc => (h.idle c hc).step E rfl rfl (fun _ h _ => h), h.gone, h.has, fun e he => (h.T e he).step E fun h => .inr h, h.one, h.bgone, fun r hr => (h.R r hr).step E⟩

theorem ext_seen {l : List Sn} {x : Sn} {i : Nat} (h : i < l.length) : (l ++ [x])[i]? = l[i]? := List.getElem?_append_left h
def updI {α : Type} (f : Int → α) (c : Int) (x : α) : Int → α := fun d => if d = c then x else f d
theorem updI_same {α : Type} (f : Int → α) (c : Int) (x : α) : updI f c x c = x := if_pos rfl
theorem updI_ne {α : Type} (f : Int → α) {c d : Int} (x : α) (h : d ≠ c) : updI f c x d = f d := if_neg h

/-- A client's letter to a node. -/
theorem mail_fresh {S : Sto} {G : Gho} {c : Int} {j : Nat} {x : Cl} (h0 : 0 ≤ c) (hj : j < S.n) (hcl : S.cl c = x) (hv : x.tells = true → VOk G.T x.key x.kept) : MailOk S G ⟨S.n + c, j, ⟨c, x.key, x.rd, x.tells, x.kept⟩⟩ := by
  have no : ¬ ((S.n : Int) ≤ (j : Int)) := by omega
  refine ⟨h0, ?_, .inl ⟨Int.natCast_nonneg _, Int.ofNat_lt.2 hj, rfl⟩, fun hx => ?_, fun _ _ => ?_⟩
  · simp only [hcl]; exact Int.le_refl _
  · rcases hx with hx | hx
    · exact hv hx
    · exact absurd hx no
  · simp only [hcl]
    exact ⟨trivial, trivial, fun _ _ => trivial, fun hx => absurd hx no, fun hx => absurd hx no⟩

/-- A client begins. -/
theorem SInv.begin_ {S : Sto} {G : Gho} (h : SInv S G) {c : Int} (h0 : 0 ≤ c) (hb : (S.cl c).busy = false) (hg : (S.cl c).gone = false) (key : Int) (write : Bool) (value : Int) :
    SInv (beginS S c key write value) { G with sn := updI G.sn c (S.st key), bg := updI G.bg c S.seen.length } := by
  have E : ExtS S (beginS S c key write value) G { G with sn := updI G.sn c (S.st key), bg := updI G.bg c S.seen.length } :=
    ⟨rfl, rfl, rfl, rfl, fun _ _ => Smp.le_refl _, fun _ h => h, fun _ h => h, fun _ _ _ h => .inl h, fun _ _ _ h => h, by simp [beginS, roundS], fun i hi => by simp only [beginS, roundS]; exact ext_seen hi⟩
  have hcl : (beginS S c key write value).cl c = roundC (beginC (S.cl c) key write value) := updC_same _ _ _
  have hne : ∀ d, d ≠ c → (beginS S c key write value).cl d = S.cl d := fun d hd => updC_ne _ _ hd
  obtain ⟨q1, q2⟩ := p_stays (S' := beginS S c key write value) h rfl rfl rfl E.len
  refine ⟨h.ask, h.tell, h.cross, q1, q2, h.p3, fun m hm => ?_, fun d hd => ?_, fun d hd => ?_, h.has, fun e he => (h.T e he).step E fun hx => ?_, h.one, h.bgone, fun r hr => (h.R r hr).step E⟩
  · rcases mem_sendAll hm with hm | ⟨j, hj, rfl⟩
    · by_cases e : m.l.c = c
      · refine (h.mails m hm).step E ?_ fun _ hr => ?_
        · rw [e, hcl]; show _ ≤ (S.cl c).rd + 1; omega
        · rw [e, hcl] at hr
          have : (S.cl c).rd = (S.cl c).rd + 1 := hr
          omega
      · refine (h.mails m hm).step E (by rw [hne _ e]; exact Int.le_refl _) fun hb' _ => ?_
        rw [hne _ e] at hb' ⊢
        exact ⟨hb', rfl, rfl, fun _ => rfl, updI_ne _ _ e⟩
    · exact mail_fresh (S := beginS S c key write value) h0 hj hcl (fun ht => by cases ht)
  · by_cases e : d = c
    · subst e
      rw [hcl]
      refine ⟨h0, ?_, ?_, fun r hr _ => ?_, List.nodup_nil, fun j hj => absurd hj (by simp [roundC]), fun _ s L hp hl => ?_, fun _ j => ?_, fun _ j hj => absurd hj (by simp [roundC]), fun _ => .inl ⟨rfl, rfl⟩, fun ht => (by cases ht), fun ht => (by cases ht), fun ht => (by cases ht), fun ht => (by cases ht)⟩
      · show updI G.bg d S.seen.length d < _
        rw [updI_same]; simp [beginS, roundS]
      · show _[updI G.bg d S.seen.length d]? = _
        rw [updI_same]
        simp only [beginS, roundS]
        rw [List.getElem?_append_right (Nat.le_refl _), Nat.sub_self]
        rfl
      · show _ < updI G.bg d S.seen.length d
        rw [updI_same]; exact (h.R r hr).ok
      · show quoB S.n S.tell (updI G.sn d (S.st key) d) s
        rw [updI_same]; exact (h.p1 key s L hp).1
      · show (updI G.sn d (S.st key) d j).le _
        rw [updI_same]; exact Smp.le_refl _
    · rw [hne _ e] at hd ⊢
      exact (h.idle d hd).step E (updI_ne _ _ e) (updI_ne _ _ e) (fun _ h _ => h)
  · by_cases e : d = c
    · subst e
      rw [hcl] at hd
      have : (S.cl d).gone = true := hd
      rw [hg] at this; cases this
    · rw [hne _ e] at hd ⊢
      exact h.gone d hd
  · by_cases ec : e.c = c
    · rw [ec, hb, hg] at hx
      rcases hx with hx | hx
      · cases hx
      · cases hx.1
    · rw [hne _ ec]
      show _ ∨ _ ∨ (_ ∧ _ ∧ _ ∧ _ ∧ _ ∧ updI G.bg c S.seen.length e.c = _)
      rw [updI_ne _ _ ec]
      exact .inr hx

/-- A client gives up. -/
theorem SInv.give {S : Sto} {G : Gho} (h : SInv S G) {c : Int} : SInv (giveS S c) G := by
  have E : ExtS S (giveS S c) G G := ⟨rfl, rfl, rfl, rfl, fun _ _ => Smp.le_refl _, fun _ h => h, fun _ h => h, fun _ _ _ h => .inl h, fun _ _ _ h => h, by simp [giveS], fun i hi => by simp only [giveS]; exact ext_seen hi⟩
  have hcl : (giveS S c).cl c = { S.cl c with busy := false, gone := true } := updC_same _ _ _
  have hne : ∀ d, d ≠ c → (giveS S c).cl d = S.cl d := fun d hd => updC_ne _ _ hd
  obtain ⟨q1, q2⟩ := p_stays (S' := giveS S c) h rfl rfl rfl E.len
  refine ⟨h.ask, h.tell, h.cross, q1, q2, h.p3, fun m hm => ?_, fun d hd => ?_, fun d hd => ?_, h.has, fun e he => (h.T e he).step E fun hx => ?_, h.one, h.bgone, fun r hr => (h.R r hr).step E⟩
  · by_cases e : m.l.c = c
    · refine (h.mails m hm).step E ?_ fun hb _ => ?_
      · rw [e, hcl]; exact Int.le_refl _
      · rw [e, hcl] at hb; cases hb
    · refine (h.mails m hm).step E (by rw [hne _ e]; exact Int.le_refl _) fun hb' _ => ?_
      rw [hne _ e] at hb' ⊢
      exact ⟨hb', rfl, rfl, fun _ => rfl, rfl⟩
  · by_cases e : d = c
    · subst e; rw [hcl] at hd; cases hd
    · rw [hne _ e] at hd ⊢
      exact (h.idle d hd).step E rfl rfl (fun _ h _ => h)
  · by_cases e : d = c
    · subst e; rw [hcl]
    · rw [hne _ e] at hd ⊢
      exact h.gone d hd
  · by_cases ec : e.c = c
    · rw [ec, hcl]; exact .inr (.inl rfl)
    · rw [hne _ ec]; exact .inr hx
end Go.Proofs.YtncnojgemmcplaaGreatDoor

namespace Go.Proofs.YtncnojgemmcplaaGreatDoor

theorem nodeH_own (own : Hd) (l : Ltr) : own.s.le (nodeH own l).s := by
  unfold nodeH
  split
  · rename_i h; exact Smp.lt_le h.2
  · exact Smp.le_refl _
theorem nodeH_told (own : Hd) {l : Ltr} (h : l.tells = true) : l.h.s.le (nodeH own l).s := by
  unfold nodeH
  split
  · exact Smp.le_refl _
  · rename_i hn; exact Smp.not_lt.1 fun hl => hn ⟨h, hl⟩
theorem updH_same (f : Int → Int → Hd) (j key : Int) (h : Hd) : updH f j key h j key = h := if_pos ⟨rfl, rfl⟩
theorem updH_ne (f : Int → Int → Hd) {j key a b : Int} (h : Hd) (hn : ¬ (a = j ∧ b = key)) : updH f j key h a b = f a b := if_neg hn

open Classical in
/-- What has now reached enough nodes. -/
noncomputable def reach (S' : Sto) (n0 : Nat) (p : Int → Smp → Option Nat) : Int → Smp → Option Nat := fun key s => match p key s with
  | some L => some L
  | none => if quoB S'.n S'.tell (S'.st key) s then some n0 else none

/-- A node hears. -/
theorem SInv.node {S : Sto} {G : Gho} (h : SInv S G) {m : Ml} (hm : MailOk S G m) (hto : m.to < S.n) : SInv (nodeS S m) { G with p := reach (nodeS S m) S.seen.length G.p } := by
  obtain ⟨w1, w2, w3⟩ : 0 ≤ m.to ∧ m.to < S.n ∧ m.fr = S.n + m.l.c := by
    rcases hm.way with e | e
    · exact e
    · have := hm.cl; omega
  have hst : ∀ key j, (S.st key j).le ((nodeS S m).st key j) := fun key j => by
    show ((S.has j key).s).le (updH S.has m.to m.l.key _ j key).s
    by_cases e : j = m.to ∧ key = m.l.key
    · obtain ⟨rfl, rfl⟩ := e
      rw [updH_same]; exact nodeH_own _ _
    · rw [updH_ne _ _ e]; exact Smp.le_refl _
  have hold : ∀ key s L, G.p key s = some L → reach (nodeS S m) S.seen.length G.p key s = some L := fun key s L hp => by unfold reach; rw [hp]
  have hnew : ∀ key s L, reach (nodeS S m) S.seen.length G.p key s = some L → G.p key s = some L ∨ (quoB (nodeS S m).n (nodeS S m).tell ((nodeS S m).st key) s ∧ L = S.seen.length) := fun key s L hp => by
    unfold reach at hp
    split at hp
    · rename_i L' e; exact .inl (by rw [e]; exact hp)
    · split at hp
      · rename_i hq; exact .inr ⟨hq, (Option.some.inj hp).symm⟩
      · cases hp
  have hall : ∀ key s, quoB (nodeS S m).n (nodeS S m).tell ((nodeS S m).st key) s → ∃ L, reach (nodeS S m) S.seen.length G.p key s = some L ∧ L ≤ S.seen.length := fun key s hq => by
    cases e : G.p key s with
    | some L => exact ⟨L, hold _ _ _ e, (h.p1 key s L e).2⟩
    | none => exact ⟨S.seen.length, by unfold reach; rw [e]; exact if_pos hq, Nat.le_refl _⟩
  have E : ExtS S (nodeS S m) G { G with p := reach (nodeS S m) S.seen.length G.p } :=
    ⟨rfl, rfl, rfl, rfl, hst, fun _ h => h, fun _ h => h, fun key s L hp => (hnew key s L hp).imp id fun e => Nat.le_of_eq e.2.symm, hold, Nat.le_refl _, fun _ _ => rfl⟩
  have hv : VOk G.T m.l.key (nodeH (S.has m.to m.l.key) m.l) := by
    unfold nodeH
    split
    · rename_i e; exact hm.val (.inl e.1)
    · exact h.has _ _
  refine ⟨h.ask, h.tell, h.cross, fun key s L hp => ?_, fun key s hq => ?_, fun key s s' L' hs hp => ?_, fun x hx => ?_, fun c hc => (h.idle c hc).step E rfl rfl (fun _ h _ => h), h.gone, fun j key => ?_, fun e he => (h.T e he).step E fun hx => .inr hx, h.one, h.bgone, fun r hr => (h.R r hr).step E⟩
  · rcases hnew key s L hp with e | ⟨e1, rfl⟩
    · exact ⟨(h.p1 key s L e).1.mono (Smp.le_refl _) (hst key), (h.p1 key s L e).2⟩
    · exact ⟨e1, Nat.le_refl _⟩
  · obtain ⟨L, hL, _⟩ := hall key s hq
    exact ⟨L, hL⟩
  · rcases hnew key s' L' hp with e | ⟨e1, rfl⟩
    · obtain ⟨L, h1, h2⟩ := h.p3 key s s' L' hs e
      exact ⟨L, hold _ _ _ h1, h2⟩
    · exact hall key s (e1.mono hs fun _ => Smp.le_refl _)
  · rcases mem_sendL hx with hx | rfl
    · exact (h.mails x hx).step E (Int.le_refl _) fun hb _ => ⟨hb, rfl, rfl, fun _ => rfl, rfl⟩
    · refine ⟨hm.cl, hm.rd, .inr ⟨w3, w1, w2⟩, fun _ => hv, fun hb hr => ?_⟩
      obtain ⟨d1, d2, d3, d4, d5⟩ := hm.cur hb hr
      refine ⟨d1, d2, fun hx => ?_, fun _ ht => ?_, fun _ ht => ?_⟩
      · have : m.fr < (S.n : Int) := hx
        have := hm.cl
        omega
      · refine Smp.le_trans ((h.idle m.l.c hb).amin ht m.to) ?_
        show ((S.has m.to (S.cl m.l.c).key).s).le (nodeH (S.has m.to m.l.key) m.l).s
        rw [← d1]; exact nodeH_own _ _
      · show (S.cl m.l.c).kept.s.le (updH S.has m.to m.l.key (nodeH (S.has m.to m.l.key) m.l) m.to (S.cl m.l.c).key).s
        rw [← d1, updH_same, ← d3 hto ht]
        exact nodeH_told _ (d2.trans ht)
  · show VOk G.T key (updH S.has m.to m.l.key _ j key)
    by_cases e : j = m.to ∧ key = m.l.key
    · obtain ⟨rfl, rfl⟩ := e
      rw [updH_same]; exact hv
    · rw [updH_ne _ _ e]; exact h.has _ _

theorem VOk.t0 {S : Sto} {G : Gho} (h : SInv S G) {key : Int} {x : Hd} (hv : VOk G.T key x) : 0 ≤ x.s.t := by
  rcases hv with ⟨e, _⟩ | ⟨e, he, _, e2, _⟩
  · rw [e]; decide
  · have := (h.T e he).hi
    rw [e2] at this; omega

/-- An answer is counted. -/
theorem ClOk.count {S : Sto} {G : Gho} (h : SInv S G) {c : Int} {x : Cl} (hx : ClOk S G c x) {node : Int} {v : Hd} (hn : 0 ≤ node ∧ node < S.n) (hnot : node ∉ x.cnt) (hv : VOk G.T x.key v) (ha : x.tells = false → (G.sn c node).le v.s) (ht : x.tells = true → x.kept.s.le (S.st x.key node)) :
    ClOk S G c (countC x node v) ∧ ((countC x node v).tells = false → VOk G.T x.key (countC x node v).kept) := by
  have hk : x.tells = true → (countC x node v).kept = x.kept := fun e => by simp [countC, e]
  have hle : x.kept.s.le (countC x node v).kept.s := by
    unfold countC
    simp only
    split
    · rename_i e; exact Smp.lt_le e.2
    · exact Smp.le_refl _
  have hvl : x.tells = false → v.s.le (countC x node v).kept.s := fun e => by
    unfold countC
    simp only
    split
    · exact Smp.le_refl _
    · rename_i hn; exact Smp.not_lt.1 fun hl => hn ⟨e, hl⟩
  have hval : x.tells = false → VOk G.T x.key (countC x node v).kept := fun e => by
    unfold countC
    simp only
    split
    · exact hv
    · rename_i hno
      rcases hx.aval e with ⟨_, e2⟩ | e2
      · exfalso
        apply hno
        refine ⟨e, ?_⟩
        rw [e2]
        have := hv.t0 h
        exact .inl (by show (-1 : Int) < _; omega)
      · exact e2
  refine ⟨⟨hx.lo, hx.bg, hx.inv, hx.past, ?_, ?_, hx.asnap, hx.amin, fun e j hj => ?_, fun e => .inr (hval e), fun e s L hp hl => ?_, fun e j hj => ?_, fun e => ?_, fun e ew => ?_⟩, hval⟩
  · show (x.cnt ++ [node]).Nodup
    rw [List.nodup_append]
    refine ⟨hx.nd, by simp, fun a ha' b hb e => ?_⟩
    obtain rfl := List.mem_singleton.1 hb
    exact hnot (by rw [← e]; exact ha')
  · intro j hj
    rcases List.mem_append.1 hj with hj | hj
    · exact hx.inn j hj
    · obtain rfl := List.mem_singleton.1 hj
      exact hn
  · rcases List.mem_append.1 hj with hj | hj
    · exact Smp.le_trans (hx.acnt e j hj) hle
    · obtain rfl := List.mem_singleton.1 hj
      exact Smp.le_trans (ha e) (hvl e)
  · rw [hk e]; exact hx.tp e s L hp hl
  · rw [hk e]
    rcases List.mem_append.1 hj with hj | hj
    · exact hx.tcnt e j hj
    · obtain rfl := List.mem_singleton.1 hj
      exact ht e
  · rw [hk e]; exact hx.tval e
  · rw [hk e]; exact hx.tw e ew

/-- When enough are counted, nothing that had reached enough nodes ahead of the begin is newer. -/
theorem ClOk.asked {S : Sto} {G : Gho} (h : SInv S G) {c : Int} {x : Cl} (hx : ClOk S G c x) (ha : x.tells = false) (hl : S.ask ≤ x.cnt.length) : ∀ s L, G.p x.key s = some L → L ≤ G.bg c → s.le x.kept.s := fun s L hp hb => by
  obtain ⟨j, hj, e⟩ := quo_meets (hx.asnap ha s L hp hb) h.cross hl hx.nd hx.inn
  exact Smp.le_trans e (hx.acnt ha j hj)

/-- Some are counted, not enough. -/
theorem SInv.some_ {S : Sto} {G : Gho} (h : SInv S G) {c : Int} {y : Cl} (hb : (S.cl c).busy = true) (hy : ClOk S G c y) (e1 : y.busy = true) (e2 : y.rd = (S.cl c).rd) (e3 : y.key = (S.cl c).key) (e4 : y.tells = (S.cl c).tells) (e5 : y.tells = true → y.kept = (S.cl c).kept) (e6 : y.write = (S.cl c).write) (e7 : y.gone = (S.cl c).gone) :
    SInv { S with cl := updC S.cl c y } G := by
  have E : ExtS S { S with cl := updC S.cl c y } G G := ⟨rfl, rfl, rfl, rfl, fun _ _ => Smp.le_refl _, fun _ h => h, fun _ h => h, fun _ _ _ h => .inl h, fun _ _ _ h => h, Nat.le_refl _, fun _ _ => rfl⟩
  refine ⟨h.ask, h.tell, h.cross, h.p1, h.p2, h.p3, fun m hm => ?_, fun d hd => ?_, fun d hd => ?_, h.has, fun e he => (h.T e he).step E fun hx => ?_, h.one, h.bgone, fun r hr => (h.R r hr).step E⟩
  · by_cases e : m.l.c = c
    · refine (h.mails m hm).step E ?_ fun _ _ => ?_
      · show _ ≤ (updC S.cl c y m.l.c).rd
        rw [e, updC_same, e2]; exact Int.le_refl _
      · show _ ∧ (updC S.cl c y m.l.c).key = _ ∧ (updC S.cl c y m.l.c).tells = _ ∧ (_ → (updC S.cl c y m.l.c).kept = _) ∧ _
        rw [e, updC_same]
        exact ⟨hb, e3, e4, fun ht => e5 (e4.trans ht), rfl⟩
    · refine (h.mails m hm).step E ?_ fun hb' _ => ?_
      · show _ ≤ (updC S.cl c y m.l.c).rd
        rw [updC_ne _ _ e]; exact Int.le_refl _
      · have hb2 : (updC S.cl c y m.l.c).busy = true := hb'
        rw [updC_ne _ _ e] at hb2
        show _ ∧ (updC S.cl c y m.l.c).key = _ ∧ (updC S.cl c y m.l.c).tells = _ ∧ (_ → (updC S.cl c y m.l.c).kept = _) ∧ _
        rw [updC_ne _ _ e]
        exact ⟨hb2, rfl, rfl, fun _ => rfl, rfl⟩
  · show ClOk _ _ _ (updC S.cl c y d)
    by_cases e : d = c
    · subst e; rw [updC_same]; exact hy.step E rfl rfl (fun _ h _ => h)
    · have hb2 : (updC S.cl c y d).busy = true := hd
      rw [updC_ne _ _ e] at hb2 ⊢
      exact (h.idle d hb2).step E rfl rfl (fun _ h _ => h)
  · have hd2 : (updC S.cl c y d).gone = true := hd
    show (updC S.cl c y d).busy = false
    by_cases e : d = c
    · subst e
      rw [updC_same, e7] at hd2
      rw [h.gone d hd2] at hb; cases hb
    · rw [updC_ne _ _ e] at hd2 ⊢
      exact h.gone d hd2
  · show _ ∨ (updC S.cl c y e.c).gone = true ∨ ((updC S.cl c y e.c).busy = true ∧ (updC S.cl c y e.c).tells = true ∧ (updC S.cl c y e.c).write = true ∧ (updC S.cl c y e.c).key = _ ∧ (updC S.cl c y e.c).kept.s = _ ∧ _)
    by_cases ec : e.c = c
    · rw [ec] at hx ⊢
      rw [updC_same]
      rcases hx with hx | ⟨x1, x2, x3, x4, x5, x6⟩
      · exact .inr (.inl (e7.trans hx))
      · exact .inr (.inr ⟨e1, e4.trans x2, e6.trans x3, e3.trans x4, by rw [e5 (e4.trans x2)]; exact x5, x6⟩)
    · rw [updC_ne _ _ ec]; exact .inr hx

/-- A client that asked tells. -/
theorem SInv.tells {S : Sto} {G : Gho} (h : SInv S G) {c : Int} {y : Cl} (hb : (S.cl c).busy = true) (ha : (S.cl c).tells = false) (hy : ClOk S G c y) (e1 : y.busy = true) (e2 : y.rd = (S.cl c).rd) (e4 : y.tells = false) (e7 : y.gone = (S.cl c).gone) (hv : VOk G.T y.key y.kept) (hl : S.ask ≤ y.cnt.length) :
    SInv (roundS S c (tellC c y)) { G with T := if y.write = true then (⟨y.key, (tellC c y).kept.s, y.value, c, G.bg c⟩ : Tw) :: G.T else G.T } := by
  have hasked := hy.asked h e4 hl
  have hgone : (S.cl c).gone = false := by
    cases e : (S.cl c).gone with
    | false => rfl
    | true => rw [h.gone c e] at hb; cases hb
  have hT : ∀ e ∈ G.T, e ∈ (if y.write = true then (⟨y.key, (tellC c y).kept.s, y.value, c, G.bg c⟩ : Tw) :: G.T else G.T) := fun e he => by
    split
    · exact List.mem_cons_of_mem _ he
    · exact he
  have hTn : ∀ e ∈ (if y.write = true then (⟨y.key, (tellC c y).kept.s, y.value, c, G.bg c⟩ : Tw) :: G.T else G.T), e ∈ G.T ∨ (y.write = true ∧ e = ⟨y.key, (tellC c y).kept.s, y.value, c, G.bg c⟩) := fun e he => by
    split at he
    · rename_i hw
      rcases List.mem_cons.1 he with he | he
      · exact .inr ⟨hw, he⟩
      · exact .inl he
    · exact .inl he
  have hks : y.write = true → (tellC c y).kept = ⟨⟨y.kept.s.t + 1, c⟩, y.value⟩ := fun hw => by simp [tellC, hw]
  have hkr : y.write = false → (tellC c y).kept = y.kept := fun hw => by simp [tellC, hw]
  have hlt : y.write = true → y.kept.s.lt (tellC c y).kept.s := fun hw => by rw [hks hw]; exact .inl (by show y.kept.s.t < y.kept.s.t + 1; omega)
  have hle : y.kept.s.le (tellC c y).kept.s := by
    cases hw : y.write with
    | true => exact Smp.lt_le (hlt hw)
    | false => rw [hkr hw]; exact Smp.le_refl _
  have hnv : VOk (if y.write = true then (⟨y.key, (tellC c y).kept.s, y.value, c, G.bg c⟩ : Tw) :: G.T else G.T) y.key (tellC c y).kept := by
    cases hw : y.write with
    | true =>
      rw [if_pos rfl]
      exact .inr ⟨_, List.mem_cons_self, rfl, rfl, by rw [hks hw]⟩
    | false => rw [if_neg (by decide), hkr hw]; exact hv
  have E : ExtS S (roundS S c (tellC c y)) G { G with T := if y.write = true then (⟨y.key, (tellC c y).kept.s, y.value, c, G.bg c⟩ : Tw) :: G.T else G.T } :=
    ⟨rfl, rfl, rfl, rfl, fun _ _ => Smp.le_refl _, hT, fun _ h => h, fun _ _ _ h => .inl h, fun _ _ _ h => h, Nat.le_refl _, fun _ _ => rfl⟩
  have hcl : (roundS S c (tellC c y)).cl c = roundC (tellC c y) := updC_same _ _ _
  have hne : ∀ d, d ≠ c → (roundS S c (tellC c y)).cl d = S.cl d := fun d hd => updC_ne _ _ hd
  refine ⟨h.ask, h.tell, h.cross, h.p1, h.p2, h.p3, fun m hm => ?_, fun d hd => ?_, fun d hd => ?_, fun j key => (h.has j key).mono hT, fun e he => ?_, fun e he e' he' hk hs => ?_, fun e he e' he' hk => ?_, fun r hr => (h.R r hr).step E⟩
  · rcases mem_sendAll hm with hm | ⟨j, hj, rfl⟩
    · by_cases e : m.l.c = c
      · refine (h.mails m hm).step E ?_ fun _ hr => ?_
        · rw [e, hcl]; show _ ≤ y.rd + 1; omega
        · rw [e, hcl] at hr
          have : (S.cl c).rd = y.rd + 1 := hr
          omega
      · refine (h.mails m hm).step E (by rw [hne _ e]; exact Int.le_refl _) fun hb' _ => ?_
        rw [hne _ e] at hb' ⊢
        exact ⟨hb', rfl, rfl, fun _ => rfl, rfl⟩
    · exact mail_fresh (S := roundS S c (tellC c y)) hy.lo hj hcl (fun _ => hnv)
  · by_cases e : d = c
    · subst e
      rw [hcl]
      refine ⟨hy.lo, hy.bg, hy.inv, hy.past, List.nodup_nil, fun j hj => absurd hj (by simp [roundC]), fun ht => (by cases ht), fun ht => (by cases ht), fun ht => (by cases ht), fun ht => (by cases ht), fun _ s L hp hl' => ?_, fun _ j hj => absurd hj (by simp [roundC]), fun _ => hnv, fun _ hw => ?_⟩
      · have h1 := hasked s L hp hl'
        refine ⟨Smp.le_trans h1 hle, fun hw e => ?_⟩
        have h2 := hlt hw
        have h3 : s = (tellC d y).kept.s := e
        rw [← h3] at h2
        exact Smp.lt_irrefl _ (Smp.lt_of_le_lt h1 h2)
      · have hw' : y.write = true := hw
        refine ⟨?_, ?_⟩
        · show _ ∈ (if y.write = true then (⟨y.key, (tellC d y).kept.s, y.value, d, G.bg d⟩ : Tw) :: G.T else G.T)
          rw [if_pos hw']; exact List.mem_cons_self
        · show (tellC d y).kept.v = y.value
          rw [hks hw']
    · rw [hne _ e] at hd ⊢
      exact (h.idle d hd).step E rfl rfl (fun _ h _ => h)
  · by_cases e : d = c
    · subst e
      rw [hcl] at hd
      have : y.gone = true := hd
      rw [e7, hgone] at this; cases this
    · rw [hne _ e] at hd ⊢
      exact h.gone d hd
  · rcases hTn e he with he | ⟨hw, rfl⟩
    · refine (h.T e he).step E fun hx => ?_
      by_cases ec : e.c = c
      · rw [ec, hgone, ha] at hx
        rcases hx with hx | hx
        · cases hx
        · cases hx.2.1
      · rw [hne _ ec]; exact .inr hx
    · refine ⟨?_, ?_, hy.lo, hy.bg, ?_, fun L hp => ?_, ?_⟩
      · have := hv.t0 h
        rw [hks hw]; show 1 ≤ y.kept.s.t + 1; omega
      · rw [hks hw]
      · have := hy.inv
        rw [show (roundS S c (tellC c y)).seen = S.seen from rfl, this]
        simp [snOf, hw]
      · apply Nat.lt_of_not_le
        intro hle'
        exact Smp.lt_irrefl _ (Smp.lt_of_le_lt (hasked _ L hp hle') (hlt hw))
      · right; right
        simp only [hcl]
        exact ⟨e1, rfl, hw, rfl, rfl, trivial⟩
  · have key : ∀ e ∈ G.T, y.write = true → e.key = y.key → e.s = (tellC c y).kept.s → False := fun e he hw hk hs => by
      have hec : e.c = c := by
        have := (h.T e he).c
        rw [hs, hks hw] at this
        exact this.symm
      rcases (h.T e he).end_ with ⟨r, hr, r1, r2, r3, r4, r5, r6⟩ | hx | hx
      · obtain ⟨L, hL, hLo⟩ := (h.R r hr).set_ (.inl r1)
        have hp := hy.past r hr (r3.trans hec)
        rw [r4, r5, hk, hs] at hL
        exact Smp.lt_irrefl _ (Smp.lt_of_le_lt (hasked _ L hL (by omega)) (hlt hw))
      · rw [hec, hgone] at hx; cases hx
      · rw [hec, ha] at hx; cases hx.2.1
    rcases hTn e he with he | ⟨hw, rfl⟩ <;> rcases hTn e' he' with he' | ⟨hw', rfl⟩
    · exact h.one e he e' he' hk hs
    · exact (key e he hw' hk hs).elim
    · exact (key e' he' hw hk.symm hs.symm).elim
    · rfl
  · have key : ∀ e ∈ G.T, e.bg = G.bg c → False := fun e he hk => by
      have h1 := (h.T e he).inv
      rw [hk, hy.inv] at h1
      have hec : e.c = c := by
        have := congrArg Sn.proc (Option.some.inj h1)
        exact this.symm
      rcases (h.T e he).end_ with ⟨r, hr, r1, r2, r3, r4, r5, r6⟩ | hx | hx
      · have hp := hy.past r hr (r3.trans hec)
        have hb' := (h.R r hr).bg
        omega
      · rw [hec, hgone] at hx; cases hx
      · rw [hec, ha] at hx; cases hx.2.1
    rcases hTn e he with he | ⟨hw, rfl⟩ <;> rcases hTn e' he' with he' | ⟨hw', rfl⟩
    · exact h.bgone e he e' he' hk
    · exact (key e he hk).elim
    · exact (key e' he' hk.symm).elim
    · rfl

/-- A client is done. -/
theorem SInv.done {S : Sto} {G : Gho} (h : SInv S G) {c : Int} {y : Cl} (hb : (S.cl c).busy = true) (hy : ClOk S G c y) (e3 : y.key = (S.cl c).key) (e4 : y.tells = (S.cl c).tells) (e5 : y.tells = true → y.kept = (S.cl c).kept) (e6 : y.write = (S.cl c).write) (e8 : y.rd = (S.cl c).rd) (e7 : y.gone = (S.cl c).gone)
    (hv : y.tells = false → VOk G.T y.key y.kept) (hl : (if y.tells then S.tell else S.ask) ≤ y.cnt.length) (hk : y.tells = false → y.write = false ∧ S.back = false) :
    SInv (doneS S c y) { G with R := G.R ++ [(⟨G.bg c, S.seen.length, c, y.key, y.write, y.kept.s, if y.write then y.value else y.kept.v⟩ : Rc)] } := by
  have hgone : (S.cl c).gone = false := by
    cases e : (S.cl c).gone with
    | false => rfl
    | true => rw [h.gone c e] at hb; cases hb
  have E : ExtS S (doneS S c y) G { G with R := G.R ++ [(⟨G.bg c, S.seen.length, c, y.key, y.write, y.kept.s, if y.write then y.value else y.kept.v⟩ : Rc)] } :=
    ⟨rfl, rfl, rfl, rfl, fun _ _ => Smp.le_refl _, fun _ h => h, fun _ h => List.mem_append_left _ h, fun _ _ _ h => .inl h, fun _ _ _ h => h, by simp [doneS], fun i hi => by simp only [doneS]; exact ext_seen hi⟩
  have hcl : (doneS S c y).cl c = { y with busy := false } := updC_same _ _ _
  have hne : ∀ d, d ≠ c → (doneS S c y).cl d = S.cl d := fun d hd => updC_ne _ _ hd
  obtain ⟨q1, q2⟩ := p_stays (S' := doneS S c y) h rfl rfl rfl E.len
  have hwt : y.write = true → y.tells = true := fun hw => by
    cases e : y.tells with
    | true => rfl
    | false => have := (hk e).1; rw [hw] at this; cases this
  refine ⟨h.ask, h.tell, h.cross, q1, q2, h.p3, fun m hm => ?_, fun d hd => ?_, fun d hd => ?_, h.has, fun e he => (h.T e he).step E fun hx => ?_, h.one, h.bgone, fun r hr => ?_⟩
  · by_cases e : m.l.c = c
    · refine (h.mails m hm).step E ?_ fun hb' _ => ?_
      · rw [e, hcl]; show _ ≤ y.rd; omega
      · rw [e, hcl] at hb'; cases hb'
    · refine (h.mails m hm).step E (by rw [hne _ e]; exact Int.le_refl _) fun hb' _ => ?_
      rw [hne _ e] at hb' ⊢
      exact ⟨hb', rfl, rfl, fun _ => rfl, rfl⟩
  · by_cases e : d = c
    · subst e; rw [hcl] at hd; cases hd
    · rw [hne _ e] at hd ⊢
      refine (h.idle d hd).step E rfl rfl fun r hr hrc => ?_
      rcases List.mem_append.1 hr with hr | hr
      · exact hr
      · obtain rfl := List.mem_singleton.1 hr
        exact absurd hrc.symm e
  · by_cases e : d = c
    · subst e; rw [hcl]
    · rw [hne _ e] at hd ⊢
      exact h.gone d hd
  · by_cases ec : e.c = c
    · rw [ec, hgone] at hx
      rcases hx with hx | ⟨x1, x2, x3, x4, x5, x6⟩
      · cases hx
      · left
        have hyt : y.tells = true := e4.trans x2
        have hyw : y.write = true := e6.trans x3
        obtain ⟨t1, t2⟩ := hy.tw hyt hyw
        have hks : y.kept.s = e.s := by rw [e5 hyt]; exact x5
        have heq := h.one e he _ t1 (by rw [← x4, ← e3]) hks.symm
        refine ⟨_, List.mem_append_right _ (List.mem_singleton.2 rfl), hyw, x6, ec.symm, e3.trans x4, hks, ?_⟩
        rw [if_pos hyw]
        rw [heq]
    · rw [hne _ ec]; exact .inr hx
  · rcases List.mem_append.1 hr with hr | hr
    · exact (h.R r hr).step E
    · obtain rfl := List.mem_singleton.1 hr
      refine ⟨hy.bg, by simp [doneS], ?_, ?_, fun hw => ?_, fun s L hp hl' => ?_, ?_, fun hw => ?_⟩
      · have hb' := hy.bg
        show (S.seen ++ [_])[G.bg c]? = _
        rw [ext_seen hb', hy.inv]
        cases hw : y.write <;> simp [snOf, hw]
      · show (S.seen ++ [_])[S.seen.length]? = _
        rw [List.getElem?_append_right (Nat.le_refl _), Nat.sub_self]
        cases hw : y.write <;> simp [snOf, hw]
      · cases ht : y.tells with
        | true =>
          rw [ht] at hl
          have hq := quo_of_cnt (f := S.st y.key) (s := y.kept.s) hl hy.nd hy.inn (hy.tcnt ht)
          obtain ⟨L, hL⟩ := h.p2 y.key _ hq
          exact ⟨L, hL, (h.p1 _ _ L hL).2⟩
        | false =>
          obtain ⟨k1, k2⟩ := hk ht
          rcases hw with hw | hw
          · have : y.write = true := hw
            rw [k1] at this; cases this
          · have : S.back = true := hw
            rw [k2] at this; cases this
      · cases ht : y.tells with
        | true => exact hy.tp ht s L hp hl'
        | false =>
          rw [ht] at hl
          refine ⟨hy.asked h ht hl s L hp hl', fun hw => ?_⟩
          have : y.write = true := hw
          rw [(hk ht).1] at this; cases this
      · show VOk G.T y.key ⟨y.kept.s, if y.write then y.value else y.kept.v⟩
        cases hw : y.write with
        | true =>
          have ht := hwt hw
          have := hy.tval ht
          have hv' := (hy.tw ht hw).2
          rw [if_pos rfl, ← hv']
          exact this
        | false =>
          rw [if_neg (by decide)]
          cases ht : y.tells with
          | true => exact hy.tval ht
          | false => exact hv ht
      · have hw' : y.write = true := hw
        show (⟨y.key, y.kept.s, if y.write then y.value else y.kept.v, c, G.bg c⟩ : Tw) ∈ G.T
        rw [if_pos hw']
        exact (hy.tw (hwt hw') hw').1


/-- A new store. -/
def cl0 : Cl := ⟨false, false, false, false, 0, 0, 0, ⟨⟨0, 0⟩, 0⟩, []⟩
def sto0 (n k ask tell : Nat) (back : Bool) : Sto := ⟨n, k, ask, tell, back, fun _ _ => true, [], fun _ _ => hd0, fun _ => cl0, []⟩
end Go.Proofs.YtncnojgemmcplaaGreatDoor

namespace Go.Proofs.YtncnojgemmcplaaGreatDoor

/-- What was written last to a key, ahead of place q of an order. -/
def atK (k : Nat → Int) (wr : Nat → Bool) (v : Nat → Int) (ord : List Nat) : Nat → Int → Int
  | 0, _ => 0
  | q + 1, key => if wr (ord.getD q 0) = true ∧ k (ord.getD q 0) = key then v (ord.getD q 0) else atK k wr v ord q key
section
variable {k : Nat → Int} {wr : Nat → Bool} {v : Nat → Int} {ord : List Nat}
theorem atK_last {p : Nat} {key : Int} (h1 : wr (ord.getD p 0) = true) (h2 : k (ord.getD p 0) = key) : ∀ q, p < q → (∀ p', p < p' → p' < q → ¬ (wr (ord.getD p' 0) = true ∧ k (ord.getD p' 0) = key)) → atK k wr v ord q key = v (ord.getD p 0)
  | 0, h, _ => absurd h (Nat.not_lt_zero _)
  | q + 1, h, hn => by
    unfold atK
    by_cases e : p = q
    · subst e; rw [if_pos ⟨h1, h2⟩]
    · rw [if_neg (hn q (by omega) (by omega))]
      exact atK_last h1 h2 q (by omega) fun p' a b => hn p' a (by omega)
theorem atK_none {key : Int} : ∀ q, (∀ p', p' < q → ¬ (wr (ord.getD p' 0) = true ∧ k (ord.getD p' 0) = key)) → atK k wr v ord q key = 0
  | 0, _ => rfl
  | q + 1, hn => by
    unfold atK
    rw [if_neg (hn q (by omega))]
    exact atK_none q fun p' a => hn p' (by omega)
end

/-- By time, stamp, kind, number. -/
def ptLe (t : Nat → Int) (s : Nat → Smp) (wr : Nat → Bool) (i j : Nat) : Prop :=
  t i < t j ∨ (t i = t j ∧ ((s i).t < (s j).t ∨ ((s i).t = (s j).t ∧ ((s i).c < (s j).c ∨ ((s i).c = (s j).c ∧ ((wr i = true ∧ wr j = false) ∨ (wr i = wr j ∧ i ≤ j)))))))
instance (t : Nat → Int) (s : Nat → Smp) (wr : Nat → Bool) (i j : Nat) : Decidable (ptLe t s wr i j) := by unfold ptLe; infer_instance
section
variable {t : Nat → Int} {s : Nat → Smp} {wr : Nat → Bool}
theorem ptLe_trans {i j l : Nat} (h : ptLe t s wr i j) (h' : ptLe t s wr j l) : ptLe t s wr i l := by
  unfold ptLe at *
  rcases Int.lt_trichotomy (t i) (t l) with e | e | e
  · exact .inl e
  · refine .inr ⟨e, ?_⟩
    have h := h.resolve_left (by omega)
    have h' := h'.resolve_left (by omega)
    rcases Int.lt_trichotomy (s i).t (s l).t with e2 | e2 | e2
    · exact .inl e2
    · refine .inr ⟨e2, ?_⟩
      have h := h.2.resolve_left (by omega)
      have h' := h'.2.resolve_left (by omega)
      rcases Int.lt_trichotomy (s i).c (s l).c with e3 | e3 | e3
      · exact .inl e3
      · refine .inr ⟨e3, ?_⟩
        have h := h.2.resolve_left (by omega)
        have h' := h'.2.resolve_left (by omega)
        rcases h.2 with ⟨a, b⟩ | ⟨a, b⟩ <;> rcases h'.2 with ⟨c, d⟩ | ⟨c, d⟩
        · rw [b] at c; cases c
        · exact .inl ⟨a, by rw [← c]; exact b⟩
        · exact .inl ⟨by rw [a]; exact c, d⟩
        · exact .inr ⟨a.trans c, Nat.le_trans b d⟩
      · exfalso
        rcases h.2.resolve_left (by omega) with h2
        omega
    · exfalso; omega
  · exfalso; omega
theorem ptLe_total (i j : Nat) : ptLe t s wr i j ∨ ptLe t s wr j i := by
  unfold ptLe
  rcases Int.lt_trichotomy (t i) (t j) with e | e | e
  · exact .inl (.inl e)
  · rcases Int.lt_trichotomy (s i).t (s j).t with e2 | e2 | e2
    · exact .inl (.inr ⟨e, .inl e2⟩)
    · rcases Int.lt_trichotomy (s i).c (s j).c with e3 | e3 | e3
      · exact .inl (.inr ⟨e, .inr ⟨e2, .inl e3⟩⟩)
      · cases hi : wr i <;> cases hj : wr j
        · rcases Nat.le_total i j with h | h
          · exact .inl (.inr ⟨e, .inr ⟨e2, .inr ⟨e3, .inr ⟨rfl, h⟩⟩⟩⟩)
          · exact .inr (.inr ⟨e.symm, .inr ⟨e2.symm, .inr ⟨e3.symm, .inr ⟨rfl, h⟩⟩⟩⟩)
        · exact .inr (.inr ⟨e.symm, .inr ⟨e2.symm, .inr ⟨e3.symm, .inl ⟨rfl, rfl⟩⟩⟩⟩)
        · exact .inl (.inr ⟨e, .inr ⟨e2, .inr ⟨e3, .inl ⟨rfl, rfl⟩⟩⟩⟩)
        · rcases Nat.le_total i j with h | h
          · exact .inl (.inr ⟨e, .inr ⟨e2, .inr ⟨e3, .inr ⟨rfl, h⟩⟩⟩⟩)
          · exact .inr (.inr ⟨e.symm, .inr ⟨e2.symm, .inr ⟨e3.symm, .inr ⟨rfl, h⟩⟩⟩⟩)
      · exact .inr (.inr ⟨e.symm, .inr ⟨e2.symm, .inl e3⟩⟩)
    · exact .inr (.inr ⟨e.symm, .inl e2⟩)
  · exact .inr (.inl e)
end

/-- Ops with points in time and stamps. -/
structure Pts (n : Nat) (c e k v : Nat → Int) (wr inc : Nat → Bool) (t : Nat → Int) (s : Nat → Smp) : Prop where
  lo : ∀ i, i < n → inc i = true → c i < t i
  hi : ∀ i, i < n → inc i = true → 0 ≤ e i → t i ≤ e i
  all : ∀ i, i < n → 0 ≤ e i → inc i = true
  mono : ∀ i j, i < n → j < n → inc i = true → inc j = true → k i = k j → (s i).lt (s j) → t i ≤ t j
  one : ∀ i j, i < n → j < n → inc i = true → inc j = true → wr i = true → wr j = true → k i = k j → s i = s j → i = j
  src : ∀ i, i < n → inc i = true → wr i = false → (s i = ⟨0, -1⟩ ∧ v i = 0) ∨ ∃ j, j < n ∧ inc j = true ∧ wr j = true ∧ k j = k i ∧ s j = s i ∧ v j = v i ∧ t j ≤ t i
  pos : ∀ j, j < n → inc j = true → wr j = true → Smp.lt ⟨0, -1⟩ (s j)
/-- An order in which each read tells what was written last. -/
structure OrdK (n : Nat) (c e k v : Nat → Int) (wr : Nat → Bool) (ord : List Nat) : Prop where
  once : ord.Nodup
  rng : ∀ i ∈ ord, i < n
  whole : ∀ i, i < n → 0 ≤ e i → i ∈ ord
  timely : ∀ p q, p < q → q < ord.length → ¬ (0 ≤ e (ord.getD q 0) ∧ e (ord.getD q 0) < c (ord.getD p 0))
  last : ∀ q, q < ord.length → wr (ord.getD q 0) = false → v (ord.getD q 0) = atK k wr v ord q (k (ord.getD q 0))

theorem ord_of_pts {n : Nat} {c e k v : Nat → Int} {wr inc : Nat → Bool} {t : Nat → Int} {s : Nat → Smp} (h : Pts n c e k v wr inc t s) : ∃ ord, OrdK n c e k v wr ord := by
  let ord := ((List.range n).filter inc).mergeSort fun i j => decide (ptLe t s wr i j)
  have hmem : ∀ i, i ∈ ord ↔ i < n ∧ inc i = true := fun i => by
    show i ∈ List.mergeSort _ _ ↔ _
    rw [List.mem_mergeSort, List.mem_filter, List.mem_range]
  have hsrt : ord.Pairwise fun i j => decide (ptLe t s wr i j) = true :=
    List.pairwise_mergeSort (le := fun i j => decide (ptLe t s wr i j)) (fun a b c h1 h2 => decide_eq_true (ptLe_trans (of_decide_eq_true h1) (of_decide_eq_true h2)))
      (fun a b => by
        rcases ptLe_total (t := t) (s := s) (wr := wr) a b with h | h
        · simp [h]
        · simp [h]) ((List.range n).filter inc)
  have hnd : ord.Nodup := by
    have : ((List.range n).filter inc).Nodup := List.Pairwise.filter _ List.nodup_range
    exact (List.mergeSort_perm _ _).nodup_iff.2 this
  have hgd : ∀ q (hq : q < ord.length), ord.getD q 0 = ord[q] := fun q hq => by
    rw [List.getD_eq_getElem?_getD, List.getElem?_eq_getElem hq]; rfl
  have hget : ∀ q, q < ord.length → ord.getD q 0 < n ∧ inc (ord.getD q 0) = true := fun q hq => by
    rw [List.getD_eq_getElem?_getD, List.getElem?_eq_getElem hq]
    exact (hmem _).1 (List.getElem_mem hq)
  have hle : ∀ p q, p < q → q < ord.length → ptLe t s wr (ord.getD p 0) (ord.getD q 0) := fun p q hpq hq => by
    have := List.pairwise_iff_getElem.1 hsrt p q (by omega) hq hpq
    rw [hgd q hq, hgd p (by omega)]
    exact of_decide_eq_true this
  have hinj : ∀ p q, p < ord.length → q < ord.length → ord.getD p 0 = ord.getD q 0 → p = q := fun p q hp hq e => by
    rw [hgd q hq, hgd p hp] at e
    rcases Nat.lt_trichotomy p q with h1 | h1 | h1
    · exact absurd e (List.pairwise_iff_getElem.1 hnd p q hp hq h1)
    · exact h1
    · exact absurd e.symm (List.pairwise_iff_getElem.1 hnd q p hq hp h1)
  have hplace : ∀ i, i < n → inc i = true → ∃ p, p < ord.length ∧ ord.getD p 0 = i := fun i hi hc => by
    obtain ⟨p, hp, e⟩ := List.mem_iff_getElem.1 ((hmem i).2 ⟨hi, hc⟩)
    exact ⟨p, hp, by rw [List.getD_eq_getElem?_getD, List.getElem?_eq_getElem hp]; exact e⟩
  -- two places whose ops stand in strict order
  have hbefore : ∀ p q, p < ord.length → q < ord.length → ¬ ptLe t s wr (ord.getD q 0) (ord.getD p 0) → p < q := fun p q hp hq hn => by
    rcases Nat.lt_trichotomy p q with h1 | h1 | h1
    · exact h1
    · subst h1
      exfalso
      apply hn
      rcases ptLe_total (t := t) (s := s) (wr := wr) (ord.getD p 0) (ord.getD p 0) with h | h <;> exact h
    · exact absurd (hle q p h1 hp) hn
  refine ⟨ord, hnd, fun i hi => ((hmem i).1 hi).1, fun i hi he => (hmem i).2 ⟨hi, h.all i hi he⟩, fun p q hpq hq ⟨h1, h2⟩ => ?_, fun q hq hr => ?_⟩
  · obtain ⟨a1, a2⟩ := hget q hq
    obtain ⟨b1, b2⟩ := hget p (by omega)
    have h3 := h.hi _ a1 a2 h1
    have h4 := h.lo _ b1 b2
    have h5 := hle p q hpq hq
    unfold ptLe at h5
    omega
  · obtain ⟨a1, a2⟩ := hget q hq
    -- a write of a greater stamp to this key comes behind the read
    have hbig : ∀ p, p < ord.length → wr (ord.getD p 0) = true → k (ord.getD p 0) = k (ord.getD q 0) → (s (ord.getD q 0)).lt (s (ord.getD p 0)) → q < p := fun p hp hw hk hs => by
      obtain ⟨b1, b2⟩ := hget p hp
      have h3 := h.mono _ _ a1 b1 a2 b2 hk.symm hs
      refine hbefore q p hq hp ?_
      unfold Smp.lt at hs
      unfold ptLe
      omega
    rcases h.src _ a1 a2 hr with ⟨e1, e2⟩ | ⟨j, hj, hjc, hjw, hjk, hjs, hjv, hjt⟩
    · rw [e2, atK_none q]
      intro p hp ⟨hw, hk⟩
      obtain ⟨b1, b2⟩ := hget p (by omega)
      have := hbig p (by omega) hw hk (by rw [e1]; exact h.pos _ b1 b2 hw)
      omega
    · obtain ⟨p, hp, rfl⟩ := hplace j hj hjc
      have hpq : p < q := by
        refine hbefore p q hp hq ?_
        have e1 : (s (ord.getD p 0)).t = (s (ord.getD q 0)).t := by rw [hjs]
        have e2 : (s (ord.getD p 0)).c = (s (ord.getD q 0)).c := by rw [hjs]
        rintro (hx | ⟨hx, hy | ⟨_, hy | ⟨_, ⟨hy, _⟩ | ⟨hy, _⟩⟩⟩⟩)
        · omega
        · omega
        · omega
        · rw [hr] at hy; cases hy
        · rw [hr, hjw] at hy; cases hy
      rw [← hjv, atK_last hjw hjk q hpq]
      intro p' h1 h2 ⟨hw, hk⟩
      have hp' : p' < ord.length := by omega
      obtain ⟨b1, b2⟩ := hget p' hp'
      -- its stamp is not this one, nor a greater one, nor a lesser one
      by_cases e3 : s (ord.getD p' 0) = s (ord.getD p 0)
      · have := hinj p' p hp' hp (h.one _ _ b1 hj b2 hjc hw hjw (hk.trans hjk.symm) e3)
        omega
      · by_cases e4 : (s (ord.getD p 0)).lt (s (ord.getD p' 0))
        · have := hbig p' hp' hw hk (by rw [← hjs]; exact e4)
          omega
        · have e5 := Smp.not_lt.1 e4
          have e6 : (s (ord.getD p' 0)).lt (s (ord.getD p 0)) := (Smp.eq_or_lt e5).resolve_left e3
          have h3 := h.mono _ _ b1 hj b2 hjc (hk.trans hjk.symm) e6
          have h4 := hle p p' h1 hp'
          unfold ptLe at h4
          unfold Smp.lt at e6
          omega
end Go.Proofs.YtncnojgemmcplaaGreatDoor

namespace Go.Proofs.YtncnojgemmcplaaGreatDoor

/-- Ops as they were seen. -/
structure OpsR (S : Sto) (G : Gho) (n : Nat) (c e k v : Nat → Int) (wr : Nat → Bool) : Prop where
  back : S.back = true
  done : ∀ i, i < n → 0 ≤ e i → ∃ r ∈ G.R, (r.bg : Int) = c i ∧ (r.ok : Int) = e i ∧ r.key = k i ∧ r.write = wr i ∧ r.v = v i
  told : ∀ t ∈ G.T, ∃ i, i < n ∧ c i = (t.bg : Int) ∧ wr i = true ∧ k i = t.key ∧ v i = t.v
  inj : ∀ i j, i < n → j < n → c i = c j → i = j

/-- The stamp of an op, and when it had reached enough nodes. -/
def PtOf (G : Gho) (c e k v : Nat → Int) (wr : Nat → Bool) (i : Nat) (s : Smp) (L : Nat) : Prop :=
  G.p (k i) s = some L ∧ ((0 ≤ e i ∧ ∃ r ∈ G.R, (r.bg : Int) = c i ∧ (r.ok : Int) = e i ∧ r.key = k i ∧ r.write = wr i ∧ r.v = v i ∧ r.s = s) ∨ (e i < 0 ∧ wr i = true ∧ ∃ t ∈ G.T, (t.bg : Int) = c i ∧ t.key = k i ∧ t.v = v i ∧ t.s = s))
section
variable {S : Sto} {G : Gho} {n : Nat} {c e k v : Nat → Int} {wr : Nat → Bool}
theorem PtOf.tw (h : SInv S G) {i : Nat} {s : Smp} {L : Nat} (hp : PtOf G c e k v wr i s L) (hw : wr i = true) : ∃ t ∈ G.T, (t.bg : Int) = c i ∧ t.key = k i ∧ t.v = v i ∧ t.s = s := by
  rcases hp.2 with ⟨_, r, hr, r1, r2, r3, r4, r5, r6⟩ | ⟨_, _, ht⟩
  · exact ⟨_, (h.R r hr).tw (r4.trans hw), r1, r3, r5, r6⟩
  · exact ht
/-- Of a write the stamp is the one it told. -/
theorem PtOf.of_tw (h : SInv S G) (ho : OpsR S G n c e k v wr) {i : Nat} (hi : i < n) {t : Tw} (ht : t ∈ G.T) (h1 : (t.bg : Int) = c i) (h2 : t.key = k i) (h3 : t.v = v i) (hw : wr i = true) {L : Nat} (hL : G.p (k i) t.s = some L) : PtOf G c e k v wr i t.s L := by
  refine ⟨hL, ?_⟩
  by_cases he : 0 ≤ e i
  · obtain ⟨r, hr, r1, r2, r3, r4, r5⟩ := ho.done i hi he
    have := h.bgone t ht _ ((h.R r hr).tw (r4.trans hw)) (by show t.bg = r.bg; omega)
    exact .inl ⟨he, r, hr, r1, r2, r3, r4, r5, by rw [this]⟩
  · exact .inr ⟨by omega, hw, t, ht, h1, h2, h3, rfl⟩

open Classical in
theorem abd_order (h : SInv S G) (ho : OpsR S G n c e k v wr) : ∃ ord, OrdK n c e k v wr ord := by
  let inc : Nat → Bool := fun i => decide (∃ s L, PtOf G c e k v wr i s L)
  let s : Nat → Smp := fun i => if hx : ∃ s L, PtOf G c e k v wr i s L then hx.choose else ⟨0, 0⟩
  have hs : ∀ i, inc i = true → ∃ L, PtOf G c e k v wr i (s i) L := fun i hi => by
    have hx : ∃ s L, PtOf G c e k v wr i s L := of_decide_eq_true hi
    show ∃ L, PtOf G c e k v wr i (if hx : ∃ s L, PtOf G c e k v wr i s L then hx.choose else ⟨0, 0⟩) L
    rw [dif_pos hx]; exact hx.choose_spec
  let l : Nat → Int := fun i => match G.p (k i) (s i) with | some L => (L : Int) | none => 0
  have hl : ∀ i (L : Nat), PtOf G c e k v wr i (s i) L → l i = (L : Int) := fun i L hp => by
    show (match G.p (k i) (s i) with | some L => (L : Int) | none => (0 : Int)) = (L : Int)
    rw [hp.1]
  let t : Nat → Int := fun i => if wr i = true then l i else max (l i) (c i + 1)
  have htw : ∀ i, wr i = true → t i = l i := fun i hw => if_pos hw
  have htr : ∀ i, wr i = false → t i = max (l i) (c i + 1) := fun i hw => if_neg (by rw [hw]; decide)
  have hlt : ∀ i, l i ≤ t i := fun i => by
    cases hw : wr i with
    | true => rw [htw i hw]; exact Int.le_refl _
    | false => rw [htr i hw]; exact Int.le_max_left _ _
  -- a read that is in was done
  have hrd : ∀ i L, PtOf G c e k v wr i (s i) L → wr i = false → ∃ r ∈ G.R, (r.bg : Int) = c i ∧ (r.ok : Int) = e i ∧ r.key = k i ∧ r.write = wr i ∧ r.v = v i ∧ r.s = s i := fun i L hp hw => by
    rcases hp.2 with ⟨_, r⟩ | ⟨_, hw', _⟩
    · exact r
    · rw [hw] at hw'; cases hw'
  refine ord_of_pts (inc := inc) (t := t) (s := s) ⟨fun i hi hc => ?_, fun i hi hc he => ?_, fun i hi he => ?_, fun i j hi hj hic hjc hk hlt' => ?_, fun i j hi hj hic hjc hiw hjw hk hss => ?_, fun i hi hc hw => ?_, fun j hj hc hw => ?_⟩
  · obtain ⟨L, hp⟩ := hs i hc
    cases hw : wr i with
    | true =>
      obtain ⟨tw, ht, t1, t2, t3, t4⟩ := hp.tw h hw
      have := (h.T tw ht).late L (by rw [t2, t4]; exact hp.1)
      rw [htw i hw, hl i L hp]; omega
    | false => rw [htr i hw]; omega
  · obtain ⟨L, hp⟩ := hs i hc
    obtain ⟨r, hr, r1, r2, r3, r4, r5, r6⟩ : ∃ r ∈ G.R, (r.bg : Int) = c i ∧ (r.ok : Int) = e i ∧ r.key = k i ∧ r.write = wr i ∧ r.v = v i ∧ r.s = s i := by
      rcases hp.2 with ⟨_, r⟩ | ⟨h1, _⟩
      · exact r
      · omega
    obtain ⟨L', h1, h2⟩ := (h.R r hr).set_ (.inr ho.back)
    have h3 := (h.R r hr).bg
    rw [r3, r6, hp.1] at h1
    have h4 := Option.some.inj h1
    have h5 := hl i L hp
    cases hw : wr i with
    | true => rw [htw i hw]; omega
    | false => rw [htr i hw]; omega
  · obtain ⟨r, hr, r1, r2, r3, r4, r5⟩ := ho.done i hi he
    obtain ⟨L', h1, h2⟩ := (h.R r hr).set_ (.inr ho.back)
    exact decide_eq_true ⟨r.s, L', by rw [← r3]; exact h1, .inl ⟨he, r, hr, r1, r2, r3, r4, r5, rfl⟩⟩
  · obtain ⟨Li, hpi⟩ := hs i hic
    obtain ⟨Lj, hpj⟩ := hs j hjc
    have hpj' : G.p (k i) (s j) = some Lj := by rw [hk]; exact hpj.1
    obtain ⟨L, h1, h2⟩ := h.p3 (k i) (s i) (s j) Lj (Smp.lt_le hlt') hpj'
    rw [hpi.1] at h1
    have h3 := Option.some.inj h1
    have h4 := hl i Li hpi
    have h5 := hl j Lj hpj
    have h6 := hlt j
    cases hw : wr i with
    | true => rw [htw i hw]; omega
    | false =>
      obtain ⟨r, hr, r1, r2, r3, r4, r5, r6⟩ := hrd i Li hpi hw
      have h7 : ¬ Lj ≤ r.bg := fun hle => by
        have := ((h.R r hr).new (s j) Lj (by rw [r3]; exact hpj') hle).1
        rw [r6] at this
        exact Smp.lt_irrefl _ (Smp.lt_of_le_lt this hlt')
      rw [htr i hw]; omega
  · obtain ⟨Li, hpi⟩ := hs i hic
    obtain ⟨Lj, hpj⟩ := hs j hjc
    obtain ⟨ti, hti, a1, a2, a3, a4⟩ := hpi.tw h hiw
    obtain ⟨tj, htj, b1, b2, b3, b4⟩ := hpj.tw h hjw
    have := h.one ti hti tj htj (by rw [a2, b2, hk]) (by rw [a4, b4, hss])
    subst this
    exact ho.inj i j hi hj (by omega)
  · obtain ⟨L, hp⟩ := hs i hc
    obtain ⟨r, hr, r1, r2, r3, r4, r5, r6⟩ := hrd i L hp hw
    rcases (h.R r hr).val with ⟨v1, v2⟩ | ⟨tw, ht, t1, t2, t3⟩
    · exact .inl ⟨r6.symm.trans v1, r5.symm.trans v2⟩
    · right
      obtain ⟨j, hj, j1, j2, j3, j4⟩ := ho.told tw ht
      have hkj : k j = k i := by rw [j3, t1, r3]
      have hts : tw.s = s i := t2.trans r6
      have hpj := PtOf.of_tw h ho hj ht j1.symm j3.symm j4.symm j2 (L := L) (by rw [hkj, hts]; exact hp.1)
      have hinc : inc j = true := decide_eq_true ⟨_, _, hpj⟩
      obtain ⟨L2, hp2⟩ := hs j hinc
      obtain ⟨tj, htj, b1, b2, b3, b4⟩ := hp2.tw h j2
      have e1 := h.bgone tj htj tw ht (by omega)
      have e2 : s j = s i := by rw [← b4, e1, hts]
      refine ⟨j, hj, hinc, j2, hkj, e2, by rw [j4, t3, r5], ?_⟩
      have e3 : l j = l i := by
        show (match G.p (k j) (s j) with | some L => (L : Int) | none => 0) = (match G.p (k i) (s i) with | some L => (L : Int) | none => 0)
        rw [hkj, e2]
      rw [htw j j2, e3]; exact hlt i
  · obtain ⟨L, hp⟩ := hs j hc
    obtain ⟨tw, ht, t1, t2, t3, t4⟩ := hp.tw h hw
    have := (h.T tw ht).hi
    rw [t4] at this
    exact .inl (by show (0 : Int) < _; omega)
end
end Go.Proofs.YtncnojgemmcplaaGreatDoor
