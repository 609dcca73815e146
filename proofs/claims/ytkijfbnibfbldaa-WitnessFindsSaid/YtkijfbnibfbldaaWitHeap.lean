/- Mathematics of no program: the heap that a search keeps beside the map of those that wait; it may leave out who comes behind sixteen others. -/
import Derived.Test.YtkijfbnibfbldaaWitMath
namespace Go.Proofs.Ytkijfbnibfbldaa
open Go.RowKit
set_option linter.unusedSimpArgs false
set_option linter.unusedVariables false
set_option maxRecDepth 100000

def okI (W : Wt) (x : It) : Prop := lookM W x.i = some x.k
/-- a heap beside those that wait, where these are settled -/
structure Wait (hp : List It) (W : Wt) (S : List Nat) : Prop where
  once : hp.Nodup
  old : ∀ x ∈ hp, x.i ∈ S ∨ ∃ d, lookM W x.i = some d ∧ d ≤ x.k
  here : ∀ v d, lookM W v = some d → (⟨d, v⟩ : It) ∈ hp ∨ ∃ L : List Nat, L.Nodup ∧ 16 ≤ S.length + L.length ∧ ∀ u ∈ L, ∃ c, lookM W u = some c ∧ (⟨c, u⟩ : It) ∈ hp ∧ lessB ⟨c, u⟩ ⟨d, v⟩ = true
  keys : Onces W
  apart : ∀ v d, lookM W v = some d → v ∉ S
/-- what is left of a heap: all that counts -/
structure Rest (W : Wt) (hp m : List It) : Prop where
  once : m.Nodup
  sub : ∀ y ∈ m, y ∈ hp
  all : ∀ y ∈ hp, okI W y → y ∈ m
theorem Rest.refl {W : Wt} {hp : List It} (h : hp.Nodup) : Rest W hp hp := ⟨h, fun _ h => h, fun _ h _ => h⟩
theorem Rest.erase {W : Wt} {hp m : List It} {x : It} (h : Rest W hp m) (hx : ¬ okI W x) : Rest W hp (m.erase x) :=
  ⟨h.once.erase x, fun y hy => h.sub y (List.mem_of_mem_erase hy), fun y hy ho => (List.mem_erase_of_ne (fun e : y = x => hx (e ▸ ho))).2 (h.all y hy ho)⟩
/-- x is taken, m is left -/
structure NextV (W : Wt) (hp : List It) (x : It) (m : List It) : Prop where
  ok : okI W x
  mem : x ∈ hp
  once : m.Nodup
  sub : ∀ y ∈ m, y ∈ hp ∧ y ≠ x ∧ lessB y x = false
  all : ∀ y ∈ hp, okI W y → y = x ∨ y ∈ m
theorem Rest.next {W : Wt} {hp m : List It} {x : It} (h : Rest W hp m) (hx : okI W x) (l : Least x m) : NextV W hp x (m.erase x) where
  ok := hx
  mem := h.sub x l.mem
  once := h.once.erase x
  sub := fun y hy => ⟨h.sub y (List.mem_of_mem_erase hy), fun e => by subst e; exact h.once.not_mem_erase hy, l.le y (List.mem_of_mem_erase hy)⟩
  all := fun y hy ho => by
    by_cases e : y = x
    · exact .inl e
    · exact .inr ((List.mem_erase_of_ne e).2 (h.all y hy ho))
theorem NextV.fit {W : Wt} {hp m : List It} {x : It} (h : NextV W hp x m) {Q : It → Prop} (hq : ∀ y ∈ hp, Q y) : Q x ∧ ∀ y ∈ m, Q y := ⟨hq x h.mem, fun y hy => hq y (h.sub y hy).1⟩
theorem nodup_sub_len {α : Type} [DecidableEq α] {l m : List α} (hl : l.Nodup) (hs : ∀ y ∈ l, y ∈ m) : l.length ≤ m.length := by
  induction l generalizing m with
  | nil => simp
  | cons a l ih =>
    rw [List.nodup_cons] at hl
    have ha := hs a (by simp)
    have := ih (m := m.erase a) hl.2 fun y hy => (List.mem_erase_of_ne (fun e : y = a => hl.1 (e ▸ hy))).2 (hs y (by simp [hy]))
    rw [List.length_erase_of_mem ha] at this
    have := List.length_pos_of_mem ha
    simp only [List.length_cons]
    omega
theorem NextV.len {W : Wt} {hp m : List It} {x : It} (h : NextV W hp x m) : m.length < hp.length := by
  have := nodup_sub_len (l := x :: m) (m := hp) (List.nodup_cons.2 ⟨fun e => (h.sub x e).2.1 rfl, h.once⟩) (fun y hy => by
    rcases List.mem_cons.1 hy with rfl | hy
    · exact h.mem
    · exact (h.sub y hy).1)
  simp only [List.length_cons] at this
  omega
theorem Rest.len {W : Wt} {hp m : List It} (h : Rest W hp m) : m.length ≤ hp.length := nodup_sub_len h.once h.sub
/-- F is what a heap is thinned to -/
structure ThinS (W : Wt) (hp F : List It) : Prop where
  once : F.Nodup
  sub : ∀ z ∈ F, z ∈ hp
  all : ∀ y ∈ hp, okI W y → y ∈ F ∨ (F.length = 16 ∧ ∀ z ∈ F, okI W z ∧ lessB z y = true)
theorem ThinS.refl {W : Wt} {hp : List It} (h : hp.Nodup) : ThinS W hp hp := ⟨h, fun _ h => h, fun _ h _ => .inl h⟩
/-- while it is thinned: F is kept, m is not gone through -/
structure ThinI (W : Wt) (hp F m : List It) : Prop where
  onceF : F.Nodup
  once : m.Nodup
  subF : ∀ z ∈ F, z ∈ hp ∧ okI W z
  sub : ∀ y ∈ m, y ∈ hp
  less : ∀ z ∈ F, ∀ y ∈ m, lessB z y = true
  all : ∀ y ∈ hp, okI W y → y ∈ F ∨ y ∈ m
theorem ThinI.start {W : Wt} {hp : List It} (h : hp.Nodup) : ThinI W hp [] hp := ⟨by simp, h, by simp, fun _ h => h, by simp, fun _ h _ => .inr h⟩
theorem lessB_of_not {a b : It} (h : lessB b a = false) (hne : b ≠ a) : lessB a b = true := by
  cases e : lessB a b
  · exact absurd (lessB_tot h e) hne
  · rfl
theorem ThinI.step {W : Wt} {hp F m m' : List It} {x : It} (h : ThinI W hp F m) (n : NextV W m x m') : ThinI W hp (x :: F) m' where
  onceF := List.nodup_cons.2 ⟨fun e => (by have := h.less x e x n.mem; rw [lessB_irr] at this; cases this), h.onceF⟩
  once := n.once
  subF := fun z hz => by
    rcases List.mem_cons.1 hz with rfl | hz
    · exact ⟨h.sub _ n.mem, n.ok⟩
    · exact h.subF z hz
  sub := fun y hy => h.sub y (n.sub y hy).1
  less := fun z hz y hy => by
    rcases List.mem_cons.1 hz with rfl | hz
    · exact lessB_of_not (n.sub y hy).2.2 (n.sub y hy).2.1
    · exact h.less z hz y (n.sub y hy).1
  all := fun y hy ho => by
    rcases h.all y hy ho with e | e
    · exact .inl (List.mem_cons_of_mem _ e)
    · rcases n.all y e ho with rfl | e
      · exact .inl (by simp)
      · exact .inr e
theorem ThinI.done {W : Wt} {hp F m : List It} (h : ThinI W hp F m) (hF : F.length = 16) : ThinS W hp F :=
  ⟨h.onceF, fun z hz => (h.subF z hz).1, fun y hy ho => by
    rcases h.all y hy ho with e | e
    · exact .inl e
    · exact .inr ⟨hF, fun z hz => ⟨(h.subF z hz).2, h.less z hz y e⟩⟩⟩
theorem ThinI.gone {W : Wt} {hp F m : List It} (h : ThinI W hp F m) (hm : ∀ y ∈ m, ¬ okI W y) : ThinS W hp F :=
  ⟨h.onceF, fun z hz => (h.subF z hz).1, fun y hy ho => by
    rcases h.all y hy ho with e | e
    · exact .inl e
    · exact absurd ho (hm y e)⟩
theorem ThinI.perm {W : Wt} {hp F G m : List It} (h : ThinI W hp F m) (p : F.Perm G) : ThinI W hp G m :=
  ⟨p.nodup_iff.1 h.onceF, h.once, fun z hz => h.subF z (p.mem_iff.2 hz), h.sub, fun z hz => h.less z (p.mem_iff.2 hz), fun y hy ho => (h.all y hy ho).imp (fun e => p.mem_iff.1 e) id⟩
theorem Wait.start : Wait [] [] [] := ⟨by simp, by simp, fun v d h => (by cases h), by simp [Onces], fun v d h => (by cases h)⟩
theorem lessB_trW {a b c : It} (h : lessB a b = true) (k : lessB b c = true) : lessB a c = true := by
  rw [lessB_true] at *
  omega
section
variable {hp : List It} {W : Wt} {S : List Nat} {v d : Nat}
theorem lateB_false (h : lateB W v d = false) : lookM W v = none ∨ ∃ c, lookM W v = some c ∧ d < c := by
  unfold lateB at h
  cases e : lookM W v with
  | none => exact .inl rfl
  | some c => rw [e] at h; simp at h; exact .inr ⟨c, rfl, h⟩
/-- v is come to at d, where the heap is first thinned to F -/
theorem Wait.come {F : List It} (h : Wait hp W S) (hv : v ∉ S) (hl : lateB W v d = false) (t : ThinS (putM W v d) hp F) : Wait (⟨d, v⟩ :: F) (putM W v d) S := by
  have hnot : (⟨d, v⟩ : It) ∉ hp := fun e => by
    rcases h.old _ e with e | ⟨c, hc, hcd⟩
    · exact hv e
    · rcases lateB_false hl with hn | ⟨c', hc', hd⟩
      · rw [hn] at hc; cases hc
      · rw [hc] at hc'; injection hc' with e; subst e; simp only at hcd; omega
  have hold : ∀ c, lookM W v = some c → d < c := fun c hc => by
    rcases lateB_false hl with hn | ⟨c', hc', hd⟩
    · rw [hn] at hc; cases hc
    · rw [hc] at hc'; injection hc' with e; subst e; exact hd
  refine ⟨List.nodup_cons.2 ⟨fun e => hnot (t.sub _ e), t.once⟩, ?_, ?_, putM_nodup h.keys v d, ?_⟩
  · intro x hx
    rcases List.mem_cons.1 hx with rfl | hx
    · exact .inr ⟨d, by rw [lookM_putW, if_pos rfl], Nat.le_refl _⟩
    · rcases h.old x (t.sub x hx) with e | ⟨c, hc, hk⟩
      · exact .inl e
      · refine .inr ?_
        rw [lookM_putW]
        by_cases e : x.i = v
        · rw [if_pos e]
          exact ⟨d, rfl, by have := hold c (by rw [← e]; exact hc); omega⟩
        · rw [if_neg e]
          exact ⟨c, hc, hk⟩
  · intro u c hu
    rw [lookM_putW] at hu
    by_cases e : u = v
    · subst e
      rw [if_pos rfl] at hu
      injection hu with hu
      subst hu
      exact .inl (by simp)
    · rw [if_neg e] at hu
      have hval : ∀ a b, lookM (putM W v d) a = some b → (⟨b, a⟩ : It) ∈ hp → lessB ⟨b, a⟩ ⟨c, u⟩ = true → (⟨b, a⟩ : It) ∈ F ∨ ∃ L : List Nat, L.Nodup ∧ 16 ≤ S.length + L.length ∧ ∀ u' ∈ L, ∃ c', lookM (putM W v d) u' = some c' ∧ (⟨c', u'⟩ : It) ∈ (⟨d, v⟩ : It) :: F ∧ lessB ⟨c', u'⟩ ⟨c, u⟩ = true := by
        intro a b hab hin hless
        rcases t.all _ hin hab with hF | ⟨h16, hz⟩
        · exact .inl hF
        · right
          refine ⟨F.map (·.i), ?_, by simp; omega, ?_⟩
          · rw [List.Nodup, List.pairwise_map]
            refine t.once.imp_of_mem fun {x y} hx hy hne e => hne ?_
            have h1 := (hz x hx).1
            have h2 := (hz y hy).1
            unfold okI at h1 h2
            rw [e, h2] at h1
            injection h1 with h1
            cases x; cases y
            simp only at *
            rw [e, h1]
          · intro u' hu'
            obtain ⟨z, hz', rfl⟩ := List.mem_map.1 hu'
            exact ⟨z.k, (hz z hz').1, List.mem_cons_of_mem _ hz', lessB_trW (hz z hz').2 hless⟩
      rcases h.here u c hu with hin | ⟨L, hL, h16, hall⟩
      · have hok : lookM (putM W v d) u = some c := by rw [lookM_putW, if_neg e]; exact hu
        rcases t.all _ hin hok with hF | ⟨hF, hz⟩
        · exact .inl (List.mem_cons_of_mem _ hF)
        · right
          refine ⟨F.map (·.i), ?_, by simp; omega, ?_⟩
          · rw [List.Nodup, List.pairwise_map]
            refine t.once.imp_of_mem fun {x y} hx hy hne e => hne ?_
            have h1 := (hz x hx).1
            have h2 := (hz y hy).1
            unfold okI at h1 h2
            rw [e, h2] at h1
            injection h1 with h1
            cases x; cases y
            simp only at *
            rw [e, h1]
          · intro u' hu'
            obtain ⟨z, hz', rfl⟩ := List.mem_map.1 hu'
            exact ⟨z.k, (hz z hz').1, List.mem_cons_of_mem _ hz', (hz z hz').2⟩
      · by_cases hex : ∃ a ∈ L, a ≠ v ∧ ∀ b, lookM W a = some b → (⟨b, a⟩ : It) ∉ F
        · obtain ⟨a, ha, hav, hnF⟩ := hex
          obtain ⟨b, hb, hin, hless⟩ := hall a ha
          rcases hval a b (by rw [lookM_putW, if_neg hav]; exact hb) hin hless with hF | hL'
          · exact absurd hF (hnF b hb)
          · exact .inr hL'
        · right
          refine ⟨L, hL, h16, fun a ha => ?_⟩
          by_cases hav : a = v
          · subst hav
            obtain ⟨b, hb, hin, hless⟩ := hall a ha
            refine ⟨d, by rw [lookM_putW, if_pos rfl], by simp, ?_⟩
            have := hold b hb
            rw [lessB_true] at hless ⊢
            simp only at *
            omega
          · obtain ⟨b, hb, hin, hless⟩ := hall a ha
            refine ⟨b, by rw [lookM_putW, if_neg hav]; exact hb, ?_, hless⟩
            refine List.mem_cons_of_mem _ (Classical.byContradiction fun hn => hex ⟨a, ha, hav, fun b' hb' => ?_⟩)
            rw [hb] at hb'
            injection hb' with e
            subst e
            exact hn
  · intro u c hu
    rw [lookM_putW] at hu
    by_cases e : u = v
    · subst e; exact hv
    · rw [if_neg e] at hu; exact h.apart u c hu
theorem Wait.least {m : List It} {x : It} (h : Wait hp W S) (n : NextV W hp x m) (hS : S.length < 16) : LeastW x.i x.k W := by
  refine ⟨lookM_memW n.ok, fun u c hu => ?_⟩
  have hl := lookM_of_memW h.keys hu
  have hno : ∀ a b, lookM W a = some b → (⟨b, a⟩ : It) ∈ hp → lessB ⟨b, a⟩ x = false := fun a b hb hin => by
    rcases n.all _ hin hb with e | e
    · rw [e]; exact lessB_irr _
    · exact (n.sub _ e).2.2
  rcases h.here u c hl with hin | ⟨L, hL, h16, hall⟩
  · exact hno u c hl hin
  · cases L with
    | nil => simp at h16; omega
    | cons a L =>
      obtain ⟨b, hb, hin, hless⟩ := hall a (by simp)
      have := hno a b hb hin
      rw [lessB_false] at this ⊢
      rw [lessB_true] at hless
      simp only at *
      omega
theorem Wait.none (h : Wait hp W S) (hn : ∀ y ∈ hp, ¬ okI W y) (hS : S.length < 16) : W = [] := by
  cases W with
  | nil => rfl
  | cons p W =>
    exfalso
    have hl := lookM_of_memW h.keys (show (p.1, p.2) ∈ p :: W by simp)
    rcases h.here _ _ hl with hin | ⟨L, hL, h16, hall⟩
    · exact hn _ hin hl
    · cases L with
      | nil => simp at h16; omega
      | cons a L =>
        obtain ⟨b, hb, hin, hless⟩ := hall a (by simp)
        exact hn _ hin hb
theorem Wait.settle {m : List It} {x : It} (h : Wait hp W S) (n : NextV W hp x m) : Wait m (delM W x.i) (S ++ [x.i]) := by
  have hlook : ∀ a b, lookM W a = some b → a ≠ x.i → lookM (delM W x.i) a = some b := fun a b hb ha => by rw [lookM_delW, if_neg ha]; exact hb
  have hin' : ∀ a b, lookM W a = some b → a ≠ x.i → (⟨b, a⟩ : It) ∈ hp → (⟨b, a⟩ : It) ∈ m := fun a b hb ha hin => by
    rcases n.all _ hin hb with e | e
    · exact absurd (by rw [← e]) ha
    · exact e
  refine ⟨n.once, ?_, ?_, delM_nodup h.keys _, ?_⟩
  · intro y hy
    by_cases e : y.i = x.i
    · exact .inl (by simp [e])
    · rcases h.old y (n.sub y hy).1 with hs | ⟨c, hc, hk⟩
      · exact .inl (by simp [hs])
      · exact .inr ⟨c, hlook _ _ hc e, hk⟩
  · intro u c hu
    rw [lookM_delW] at hu
    by_cases e : u = x.i
    · rw [if_pos e] at hu; cases hu
    · rw [if_neg e] at hu
      rcases h.here u c hu with hin | ⟨L, hL, h16, hall⟩
      · exact .inl (hin' u c hu e hin)
      · refine .inr ⟨L.erase x.i, hL.erase _, ?_, fun a ha => ?_⟩
        · rw [List.length_append, List.length_erase]
          simp only [List.length_cons, List.length_nil]
          split <;> omega
        · have hne : a ≠ x.i := fun e => by subst e; exact hL.not_mem_erase ha
          obtain ⟨b, hb, hin, hless⟩ := hall a (List.mem_of_mem_erase ha)
          exact ⟨b, hlook a b hb hne, hin' a b hb hne hin, hless⟩
  · intro u c hu
    rw [lookM_delW] at hu
    by_cases e : u = x.i
    · rw [if_pos e] at hu; cases hu
    · rw [if_neg e] at hu
      simp [h.apart u c hu, e]
theorem Wait.perm {m : List It} (h : Wait hp W S) (p : hp.Perm m) : Wait m W S :=
  ⟨p.nodup_iff.1 h.once, fun x hx => h.old x (p.mem_iff.2 hx), fun v d hv => (h.here v d hv).imp (fun e => p.mem_iff.1 e) (fun ⟨L, a, b, c⟩ => ⟨L, a, b, fun u hu => by obtain ⟨c1, q1, q2, q3⟩ := c u hu; exact ⟨c1, q1, p.mem_iff.1 q2, q3⟩⟩), h.keys, h.apart⟩
end
end Go.Proofs.Ytkijfbnibfbldaa
