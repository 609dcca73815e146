/- A pool over a disk with room, none of whose frames is pinned, is a view of files as lists of pages: what is written back, and a frame that is taken, turn nothing of it. -/
import Derived.Test.YtamboappeahgpaaGreatDoorQPoolMath
import Derived.Test.YtamboappeahgpaaGreatDoorQDiskApart
import Derived.Test.YtamboappeahgpaaGreatDoorQPoolCa
import Derived.Test.YtamboappeahgpaaGreatDoorQLawDisk7
namespace Go.Proofs.YtamboappeahgpaaGreatDoor
open Go.RowKit
set_option linter.unusedSimpArgs false
set_option linter.unusedVariables false
set_option maxRecDepth 100000

/-- files as lists of pages -/
abbrev Vw := List UInt8 → Option (List (List UInt8))
def upV (V : Vw) (nm : List UInt8) (o : Option (List (List UInt8))) : Vw := fun x => if x = nm then o else V x
/-- the error of a file that is not there -/
def nmE (nm : List UInt8) : Nat := if nameOk nm = false then 1 else 3
theorem nmE_pos (nm : List UInt8) : nmE nm ≠ 0 := by unfold nmE; split <;> decide
/-- a file on the disk, of whose pages these are dirty -/
def FileR (dl : List (List UInt8 × List Nat)) (nm : List UInt8) (f : Fl) (ps : List (List UInt8)) : Prop :=
  ∃ m, f.now.length = 256 * m ∧ m ≤ ps.length ∧ ∀ (k : Nat) (x : List UInt8), ps[k]? = some x → k ∉ dirtyOf dl nm → k < m ∧ pageAt f k = pageB (tagN nm) k x
/-- Q: so many sectors there are at least; PN: how often a page that is held is pinned -/
structure Heal (Q : Nat) (PN : List UInt8 → Nat → Nat) (p : Pst) (V : Vw) (a b : Nat) : Prop where
  off : p.d.off = false
  armed : p.d.armed = 0
  q : Q ≤ p.d.q
  num : p.d.l.length ≤ a
  big : ∀ f ∈ p.d.l, f.now.length ≤ 256 * b
  name : ∀ nm ps, V nm = some ps → nameOk nm = true
  short : ∀ nm ps, V nm = some ps → ps.length ≤ b ∧ ∀ x ∈ ps, x.length ≤ 240
  gone : ∀ nm, V nm = none → getF p.d.l nm = none
  has : ∀ nm ps, V nm = some ps → ∃ f, getF p.d.l nm = some f ∧ FileR p.dl nm f ps
  pins : ∀ (i : Nat) (f : Frm), p.fr[i]? = some (some f) → f.pins = PN f.name f.k
  frm : ∀ (i : Nat) (f : Frm), p.fr[i]? = some (some f) → ∃ ps, V f.name = some ps ∧ ps[f.k]? = some f.b
  ok : PstOk p

/-! ### The disk -/
section
variable {s : Ds} {nm : List UInt8} {f : Fl}
theorem hl_gone (h : s.armed = 0) : goneS s = s := by unfold goneS; rw [if_neg (by omega)]
theorem hl_set_self {l : List Fl} {f f' : Fl} (h : getF l nm = some f) (hn : f'.name = nm) : getF (setF l f') nm = some f' := by
  induction l with
  | nil => simp [getF] at h
  | cons g l ih =>
    rw [getF_cons] at h
    show getF ((if g.name = f'.name then f' else g) :: setF l f') nm = _
    rw [getF_cons]
    by_cases e : g.name = nm
    · rw [if_pos (e.trans hn.symm), if_pos hn]
    · rw [if_neg e] at h
      have e3 : ¬ g.name = f'.name := fun e2 => e (e2.trans hn)
      simp only [if_neg e3, if_neg e]
      exact ih h
theorem hl_set_mem {l : List Fl} {f' g : Fl} (h : g ∈ setF l f') : g = f' ∨ g ∈ l := by
  obtain ⟨x, hx, rfl⟩ := List.mem_map.1 h
  split
  · exact .inl rfl
  · exact .inr hx
theorem hl_set_len (l : List Fl) (f : Fl) : (setF l f).length = l.length := by simp [setF]
theorem hl_used {l : List Fl} {b : Nat} (h : ∀ f ∈ l, f.now.length ≤ 256 * b) : usedL l ≤ l.length * (4 * b) := by
  induction l with
  | nil => simp [usedL]
  | cons g l ih =>
    have h1 := ih (fun f hf => h f (List.mem_cons_of_mem _ hf))
    have h2 := h g (List.mem_cons_self)
    have h3 : sect g.now.length ≤ 4 * b := by unfold sect; omega
    rw [usedL_cons, List.length_cons, Nat.add_mul]
    omega
theorem hl_size (h : s.off = false) (hn : nameOk nm = true) (hg : getF s.l nm = some f) : sizeS s nm = (f.now.length, 0) := by
  unfold sizeS
  rw [h, hn, hg]
  simp
theorem hl_size0 (h : s.off = false) (hg : getF s.l nm = none) : sizeS s nm = (0, nmE nm) := by
  unfold sizeS nmE
  rw [h, hg]
  cases nameOk nm <;> simp
theorem hl_pages (h : s.off = false) (hn : nameOk nm = true) (hg : getF s.l nm = some f) : pagesP s nm = (f.now.length / 256, 0) := by unfold pagesP; rw [hl_size h hn hg]
theorem hl_open (h : s.off = false) (hn : nameOk nm = true) (hg : getF s.l nm = some f) {m : Nat} (hm : f.now.length = 256 * m) : openE s nm = 0 := by
  unfold openE
  rw [hl_size h hn hg, hm]
  simp
theorem hl_open0 (h : s.off = false) (hg : getF s.l nm = none) : openE s nm = nmE nm := by
  unfold openE
  rw [hl_size0 h hg, if_pos (nmE_pos nm)]
theorem hl_read (h : s.off = false) (hn : nameOk nm = true) (hg : getF s.l nm = some f) {m k : Nat} (hm : f.now.length = 256 * m) (hk : k < m) {x : List UInt8} (hx : x.length ≤ 240) (hp : pageAt f k = pageB (tagN nm) k x) : readP s nm (k : Int) = (x, 0) := by
  have h0 : ¬ ((k : Int) < 0) := by omega
  have e1 : ((k : Int) * 256).toNat = 256 * k := by omega
  have hr : readS s nm ((k : Int) * 256) 256 = (pageAt f k, 0) := by
    unfold readS
    rw [h, hn, hg, if_neg (by simp), if_neg (by rintro (h5 | h5 | h5); cases h5; omega; omega)]
    simp only
    rw [e1]
    rfl
  unfold readP
  rw [if_neg h0, hl_size h hn hg, if_neg (by simp), if_neg (by simp only; omega), hr, hp]
  simp only [Int.toNat_natCast]
  rw [if_pos (isPage_pageB _ _ _ hx), saidB_pageB _ _ _ hx]
theorem hl_write (h : s.off = false) (ha : s.armed = 0) (hn : nameOk nm = true) (hg : getF s.l nm = some f) {m k : Nat} (hm : f.now.length = 256 * m) (hk : k ≤ m) (hm2 : m ≤ 1000) {x : List UInt8} (hx : x.length ≤ 240) (hu : usedL s.l + 4 ≤ s.q) :
    writeP s nm (k : Int) x = ({ s with l := setF s.l (writeF f (256 * k) (pageB (tagN nm) k x)) }, 0) := by
  have h0 : ¬ ((k : Int) < 0) := by omega
  have e1 : ((k : Int) * 256).toNat = 256 * k := by omega
  have hl := pageB_length (tagN nm) k hx
  unfold writeP
  rw [if_neg h0, if_neg (by omega), hl_size h hn hg, if_neg (by simp), if_neg (by simp only; omega)]
  unfold writeS
  rw [hl_gone ha, h, hn, hg, if_neg (by simp), if_neg (by rintro (h5 | h5); cases h5; omega)]
  simp only [Int.toNat_natCast]
  rw [e1, hl, if_neg (by omega), if_neg (by omega), if_neg (by unfold sect; omega)]
  simp [h]
end

/-! ### A page is written back -/
theorem fileR_len {dl : List (List UInt8 × List Nat)} {nm : List UInt8} {f : Fl} {ps : List (List UInt8)} (h : FileR dl nm f ps) : f.now.length = 256 * (f.now.length / 256) ∧ f.now.length / 256 ≤ ps.length ∧ ∀ (k : Nat) (x : List UInt8), ps[k]? = some x → k ∉ dirtyOf dl nm → k < f.now.length / 256 ∧ pageAt f k = pageB (tagN nm) k x := by
  obtain ⟨m, h1, h2, h3⟩ := h
  have e : f.now.length / 256 = m := by omega
  rw [e]
  exact ⟨h1, h2, h3⟩
theorem PstOk.dls {p : Pst} (h : PstOk p) {d : Ds} {dl : List (List UInt8 × List Nat)} (hd : DlOk dl) (hs : ∀ nm x, x ∈ dirtyOf dl nm → x ∈ dirtyOf p.dl nm) : PstOk { p with d := d, dl := dl } :=
  ⟨h.n, h.hand, h.one, hd, fun nm k hk => h.held nm k (hs nm k hk), h.names, h.mostR, h.mostP⟩
theorem clean_sub {dl : List (List UInt8 × List Nat)} (h : DlOk dl) (nm : List UInt8) (k : Nat) (nm' : List UInt8) (x : Nat) : x ∈ dirtyOf (cleanD dl nm k) nm' ↔ x ∈ dirtyOf dl nm' ∧ ¬ (nm' = nm ∧ x = k) := by
  rw [dirtyOf_clean]
  by_cases e : nm' = nm
  · subst e
    rw [if_pos rfl, mem_erase_rise (h.rise_of _)]
    constructor
    · rintro ⟨h1, h2⟩
      exact ⟨h2, fun e => h1 e.2⟩
    · rintro ⟨h1, h2⟩
      exact ⟨fun e => h2 ⟨rfl, e⟩, h1⟩
  · rw [if_neg e]
    exact ⟨fun h => ⟨h, fun e2 => e e2.1⟩, fun h => h.1⟩
section
variable {Q : Nat} {PN : List UInt8 → Nat → Nat} {p : Pst} {V : Vw} {a b : Nat}
theorem Heal.used (h : Heal Q PN p V a b) (hab : 4 * (a * b) + 4 ≤ Q) : usedL p.d.l + 4 ≤ p.d.q := by
  have h1 := hl_used h.big
  have h2 : p.d.l.length * (4 * b) ≤ a * (4 * b) := Nat.mul_le_mul_right _ h.num
  have h3 : a * (4 * b) = 4 * (a * b) := Nat.mul_left_comm a 4 b
  have := h.q
  omega
theorem wr_heal (h : Heal Q PN p V a b) (hab : 4 * (a * b) + 4 ≤ Q) (hb : b ≤ 1000) {i : Nat} {f : Frm} (hf : p.fr[i]? = some (some f)) (hk : f.k ≤ (pagesP p.d f.name).1) :
    (writeP p.d f.name (f.k : Int) f.b).2 = 0 ∧ Heal Q PN { p with d := (writeP p.d f.name (f.k : Int) f.b).1, dl := cleanD p.dl f.name f.k } V a b ∧
    (pagesP (writeP p.d f.name (f.k : Int) f.b).1 f.name).1 = max (pagesP p.d f.name).1 (f.k + 1) ∧
    ∀ nm', nm' ≠ f.name → getF (writeP p.d f.name (f.k : Int) f.b).1.l nm' = getF p.d.l nm' := by
  obtain ⟨ps, hV, hp⟩ := h.frm i f hf
  obtain ⟨g, hg, hR⟩ := h.has _ _ hV
  obtain ⟨hm, hms, hpg⟩ := fileR_len hR
  have hn := h.name _ _ hV
  have hsh := h.short _ _ hV
  have hkl : f.k < ps.length := (List.getElem?_eq_some_iff.1 hp).1
  have hx : f.b.length ≤ 240 := hsh.2 _ (List.mem_of_getElem? hp)
  rw [hl_pages h.off hn hg] at hk ⊢
  simp only at hk ⊢
  have hw := hl_write h.off h.armed hn hg hm hk (by omega) hx (h.used hab)
  rw [hw]
  have hl := pageB_length (tagN f.name) f.k hx
  have hgn := getF_name hg
  generalize hf' : writeF g (256 * f.k) (pageB (tagN f.name) f.k f.b) = g' at *
  have hlen : g'.now.length = max g.now.length (256 * f.k + 256) := by rw [← hf']; exact writeF_len (by omega) hl
  have hpage : ∀ i, pageAt g' i = if i = f.k then pageB (tagN f.name) f.k f.b else pageAt g i := by rw [← hf']; exact writeF_page (by omega) hl
  have hgn' : g'.name = f.name := by rw [← hf']; exact hgn
  have hdiv : g'.now.length / 256 = max (g.now.length / 256) (f.k + 1) := by omega
  refine ⟨rfl, ⟨h.off, h.armed, h.q, by rw [show (setF p.d.l g').length = _ from hl_set_len _ _]; exact h.num, fun x hx => ?_, h.name, h.short, fun nm hnm => ?_, fun nm qs hq => ?_, h.pins, h.frm, ?_⟩, ?_, fun nm' hne => getF_set _ _ _ (by rw [hgn']; exact fun e => hne e.symm)⟩
  · rcases hl_set_mem hx with rfl | hx
    · have := h.big _ (getF_mem hg)
      omega
    · exact h.big x hx
  · show getF (setF p.d.l g') nm = none
    rw [getF_set _ _ _ (by rw [hgn']; intro e; rw [← e, hV] at hnm; cases hnm)]
    exact h.gone nm hnm
  · by_cases e : nm = f.name
    · subst e
      obtain rfl := Option.some.inj (hV.symm.trans hq)
      refine ⟨g', hl_set_self hg hgn', g'.now.length / 256, by omega, by omega, fun k x hx hd => ?_⟩
      rw [clean_sub h.ok.dl] at hd
      rw [hpage, hdiv]
      by_cases ek : k = f.k
      · subst ek
        obtain rfl := Option.some.inj (hp.symm.trans hx)
        exact ⟨by omega, by rw [if_pos rfl]⟩
      · obtain ⟨h1, h2⟩ := hpg k x hx (fun h3 => hd ⟨h3, fun e => ek e.2⟩)
        exact ⟨by omega, by rw [if_neg ek]; exact h2⟩
    · obtain ⟨f2, h1, m, h2, h3, h4⟩ := h.has nm qs hq
      refine ⟨f2, ?_, m, h2, h3, fun k x hx hd => h4 k x hx (fun h5 => hd ((clean_sub h.ok.dl _ _ _ _).2 ⟨h5, fun e2 => e e2.1⟩))⟩
      rw [← h1]
      exact getF_set _ _ _ (by rw [hgn']; exact fun e2 => e e2.symm)
  · exact h.ok.dls (h.ok.dl.clean _ _) (fun nm x hx => ((clean_sub h.ok.dl _ _ _ _).1 hx).1)
  · rw [hl_pages (s := { p.d with l := setF p.d.l g' }) h.off hn (hl_set_self hg hgn')]
    exact hdiv
end
theorem wb_heal {Q : Nat} {PN : List UInt8 → Nat → Nat} {V : Vw} {a b : Nat} (hab : 4 * (a * b) + 4 ≤ Q) (hb : b ≤ 1000) {nm : List UInt8} : ∀ (ks : List Nat) {p : Pst}, Heal Q PN p V a b → ks.Pairwise (· < ·) → (∀ k ∈ ks, k ∈ dirtyOf p.dl nm) →
    (∀ k ∈ ks, ∀ j, j < k → j ∈ dirtyOf p.dl nm → (pagesP p.d nm).1 ≤ j → j ∈ ks) →
    (wbS p (ks.filterMap (frmOf p.fr nm))).2 = 0 ∧ Heal Q PN (wbS p (ks.filterMap (frmOf p.fr nm))).1 V a b ∧
    (∀ nm' x, x ∈ dirtyOf (wbS p (ks.filterMap (frmOf p.fr nm))).1.dl nm' ↔ x ∈ dirtyOf p.dl nm' ∧ ¬ (nm' = nm ∧ x ∈ ks)) ∧
    (∀ nm', nm' ≠ nm → getF (wbS p (ks.filterMap (frmOf p.fr nm))).1.d.l nm' = getF p.d.l nm')
  | [], p, h, _, _, _ => ⟨rfl, h, fun nm' x => by simp [wbS], fun _ _ => rfl⟩
  | k :: ks, p, h, hr, hd, hc => by
    have hkd := hd k (List.mem_cons_self)
    obtain ⟨f, hf⟩ := frmOf_mem (h.ok.held nm k hkd)
    obtain ⟨i, -, hi, hn, hk⟩ := frmOf_some hf
    subst hn
    subst hk
    obtain ⟨hr1, hr2⟩ := List.pairwise_cons.1 hr
    obtain ⟨ps, hV, hp⟩ := h.frm i f hi
    obtain ⟨g, hg, hR⟩ := h.has _ _ hV
    obtain ⟨hm, hms, hpg⟩ := fileR_len hR
    have hn := h.name _ _ hV
    have hpp : (pagesP p.d f.name).1 = g.now.length / 256 := by rw [hl_pages h.off hn hg]
    have hkl : f.k < ps.length := (List.getElem?_eq_some_iff.1 hp).1
    have hle : f.k ≤ (pagesP p.d f.name).1 := by
      rw [hpp]
      by_cases h1 : f.k ≤ g.now.length / 256
      · exact h1
      · exfalso
        have hlt : g.now.length / 256 < ps.length := by omega
        have h2 : g.now.length / 256 ∈ dirtyOf p.dl f.name := by
          refine Classical.byContradiction fun h3 => ?_
          have := (hpg _ _ (List.getElem?_eq_getElem hlt) h3).1
          omega
        have h3 := hc f.k (List.mem_cons_self) _ (by omega) h2 (by omega)
        rcases List.mem_cons.1 h3 with h4 | h4
        · omega
        · have := hr1 _ h4
          omega
    obtain ⟨w1, w2, w3, w4⟩ := wr_heal h hab hb hi hle
    have hfm : (f.k :: ks).filterMap (frmOf p.fr f.name) = f :: ks.filterMap (frmOf p.fr f.name) := List.filterMap_cons_some hf
    rw [hfm, wbS, if_pos w1]
    obtain ⟨q1, q2, q3, q4⟩ := wb_heal hab hb ks w2 hr2 (fun j hj => (clean_sub h.ok.dl _ _ _ _).2 ⟨hd j (List.mem_cons_of_mem _ hj), fun e => by have := hr1 j hj; omega⟩) (fun j hj x hx hxd hxm => by
      rw [w3] at hxm
      obtain ⟨h5, h6⟩ := (clean_sub h.ok.dl _ _ _ _).1 hxd
      rcases List.mem_cons.1 (hc j (List.mem_cons_of_mem _ hj) x hx h5 (by omega)) with h7 | h7
      · exact absurd ⟨rfl, h7⟩ h6
      · exact h7)
    refine ⟨q1, q2, fun nm' x => ?_, fun nm' hne => (q4 nm' hne).trans (w4 nm' hne)⟩
    rw [q3, show ({ p with d := (writeP p.d f.name (f.k : Int) f.b).1, dl := cleanD p.dl f.name f.k } : Pst).dl = cleanD p.dl f.name f.k from rfl, clean_sub h.ok.dl, List.mem_cons]
    constructor
    · rintro ⟨⟨h1, h2⟩, h3⟩
      exact ⟨h1, fun ⟨e, h4⟩ => h4.elim (fun h5 => h2 ⟨e, h5⟩) (fun h5 => h3 ⟨e, h5⟩)⟩
    · rintro ⟨h1, h2⟩
      exact ⟨⟨h1, fun ⟨e, h3⟩ => h2 ⟨e, .inl h3⟩⟩, fun ⟨e, h3⟩ => h2 ⟨e, .inr h3⟩⟩
end Go.Proofs.YtamboappeahgpaaGreatDoor
/- A frame is always found where none is pinned; what each plain call answers of a view, and what it makes of it. -/
namespace Go.Proofs.YtamboappeahgpaaGreatDoor
open Go.RowKit
set_option linter.unusedSimpArgs false
set_option linter.unusedVariables false
set_option maxRecDepth 100000

/-! ### A frame is taken -/
/-- so many steps from h to t -/
def hops (n t h : Nat) : Nat := if h ≤ t then t - h else t + n - h
theorem hops_next {n t h : Nat} (ht : t < n) (hh : h < n) (hne : h ≠ t) : hops n t ((h + 1) % n) + 1 = hops n t h := by
  by_cases e : h + 1 = n
  · rw [e, Nat.mod_self]
    unfold hops
    rw [if_pos (Nat.zero_le _), if_neg (by omega)]
    omega
  · rw [Nat.mod_eq_of_lt (by omega)]
    unfold hops
    by_cases e2 : h < t
    · rw [if_pos (by omega), if_pos (by omega)]; omega
    · rw [if_neg (by omega), if_neg (by omega)]; omega
theorem hops_back {n t : Nat} (ht : t < n) : hops n t ((t + 1) % n) + 1 ≤ n := by
  by_cases e : t + 1 = n
  · rw [e, Nat.mod_self]
    unfold hops
    rw [if_pos (Nat.zero_le _)]
    omega
  · rw [Nat.mod_eq_of_lt (by omega)]
    unfold hops
    rw [if_neg (by omega)]
    omega
def Brim (fr : List (Option Frm)) : Prop := ∀ i, i < fr.length → ∃ f, fr[i]? = some (some f)
theorem Brim.set {fr : List (Option Frm)} (h : Brim fr) (j : Nat) (g : Frm) : Brim (fr.set j (some g)) := fun i hi => by
  rw [List.length_set] at hi
  obtain ⟨f, hf⟩ := h i hi
  rw [List.getElem?_set]
  split
  · exact ⟨g, by rw [if_pos (by omega)]⟩
  · exact ⟨f, hf⟩
/-- one that was not used since is found when the hand comes there -/
theorem seek_fresh (m : Nat) : ∀ (fr : List (Option Frm)) (h t : Nat) (f : Frm), h < fr.length → Brim fr → fr[t]? = some (some f) → f.pins = 0 → f.used = false → hops fr.length t h < m → (seekS m fr h).2.2 = true := by
  induction m with
  | zero => intro fr h t f _ _ _ _ _ h6; omega
  | succ m ih =>
    intro fr h t f h1 h2 h3 h4 h5 h6
    have ht := (List.getElem?_eq_some_iff.1 h3).1
    obtain ⟨g, hg⟩ := h2 h h1
    rw [seek_one m fr h hg]
    have hm : (h + 1) % fr.length < fr.length := Nat.mod_lt _ (by omega)
    by_cases e : h = t
    · subst e
      obtain rfl := Option.some.inj (Option.some.inj (hg.symm.trans h3))
      rw [if_neg (by omega), if_neg (by rw [h5]; simp)]
    · have hn := hops_next ht h1 e
      split
      · exact ih fr _ t f hm h2 h3 h4 h5 (by omega)
      · split
        · refine ih _ _ t f (by rw [List.length_set]; exact hm) (h2.set h _) ?_ h4 h5 (by rw [List.length_set]; omega)
          rw [List.getElem?_set, if_neg e]
          exact h3
        · rfl
theorem seek_found (m : Nat) : ∀ (fr : List (Option Frm)) (h t : Nat) (f : Frm), h < fr.length → Brim fr → fr[t]? = some (some f) → f.pins = 0 → hops fr.length t h + fr.length < m → (seekS m fr h).2.2 = true := by
  induction m with
  | zero => intro fr h t f _ _ _ _ h6; omega
  | succ m ih =>
    intro fr h t f h1 h2 h3 h4 h6
    have ht := (List.getElem?_eq_some_iff.1 h3).1
    obtain ⟨g, hg⟩ := h2 h h1
    rw [seek_one m fr h hg]
    have hm : (h + 1) % fr.length < fr.length := Nat.mod_lt _ (by omega)
    by_cases e : h = t
    · subst e
      obtain rfl := Option.some.inj (Option.some.inj (hg.symm.trans h3))
      rw [if_neg (by omega)]
      split
      · have hb := hops_back ht
        refine seek_fresh m _ _ h { g with used := false } (by rw [List.length_set]; exact hm) (h2.set h _) ?_ h4 rfl (by rw [List.length_set]; omega)
        rw [List.getElem?_set, if_pos rfl, if_pos h1]
      · rfl
    · have hn := hops_next ht h1 e
      split
      · exact ih fr _ t f hm h2 h3 h4 (by omega)
      · split
        · refine ih _ _ t f (by rw [List.length_set]; exact hm) (h2.set h _) ?_ h4 (by rw [List.length_set]; omega)
          rw [List.getElem?_set, if_neg e]
          exact h3
        · rfl
theorem hops_lt {n t h : Nat} (ht : t < n) (hh : h < n) : hops n t h < n := by unfold hops; split <;> omega
/-- a frame can be had -/
def Free (fr : List (Option Frm)) : Prop := resN fr < fr.length ∨ ∃ (i : Nat) (f : Frm), fr[i]? = some (some f) ∧ f.pins = 0
theorem full_at {fr : List (Option Frm)} (h : ¬ resN fr < fr.length) {i : Nat} (hi : i < fr.length) : ∃ f, fr[i]? = some (some f) := by
  have h1 : resN fr = fr.length := Nat.le_antisymm (res_le fr) (by omega)
  unfold resN at h1
  rw [List.countP_eq_length] at h1
  have := h1 fr[i] (List.getElem_mem hi)
  obtain ⟨f, hf⟩ := Option.isSome_iff_exists.1 this
  exact ⟨f, by rw [List.getElem?_eq_getElem hi, hf]⟩
section
variable {Q : Nat} {PN : List UInt8 → Nat → Nat} {p : Pst} {V : Vw} {a b : Nat}
/-- frames that are fewer, or were used otherwise -/
theorem Heal.frames (h : Heal Q PN p V a b) {q : Pst} (ok : PstOk q) (hd : q.d = p.d) (hdl : q.dl = p.dl) (hf : ∀ (i : Nat) (f : Frm), q.fr[i]? = some (some f) → ∃ (j : Nat) (g : Frm), p.fr[j]? = some (some g) ∧ f.name = g.name ∧ f.k = g.k ∧ f.b = g.b ∧ f.pins = g.pins) : Heal Q PN q V a b := by
  refine ⟨by rw [hd]; exact h.off, by rw [hd]; exact h.armed, by rw [hd]; exact h.q, by rw [hd]; exact h.num, by rw [hd]; exact h.big, h.name, h.short, by rw [hd]; exact h.gone, by rw [hd, hdl]; exact h.has, fun i f hi => ?_, fun i f hi => ?_, ok⟩
  · obtain ⟨j, g, hg, e1, e2, -, e⟩ := hf i f hi
    rw [e, e1, e2]
    exact h.pins j g hg
  · obtain ⟨j, g, hg, e1, e2, e3, -⟩ := hf i f hi
    rw [e1, e2, e3]
    exact h.frm j g hg
theorem take_heal (h : Heal Q PN p V a b) (hab : 4 * (a * b) + 4 ≤ Q) (hb : b ≤ 1000) (hfree : Free p.fr) : (takeS p).2.2 = 0 ∧ Heal Q PN (takeS p).1 V a b := by
  have T := take_spec h.ok
  revert T
  unfold takeS
  split
  · intro _
    exact ⟨rfl, h⟩
  · rename_i hfull
    obtain ⟨h1, h2, h3⟩ := seek_all (2 * p.fr.length) p.fr p.hand
    have hS := h.ok.seek (2 * p.fr.length)
    have hl := seek_len (2 * p.fr.length) p.fr p.hand
    have hn := h.ok.n
    have hfd : (seekS (2 * p.fr.length) p.fr p.hand).2.2 = true := by
      rcases hfree with h5 | ⟨t, f, ht, hp⟩
      · exact absurd h5 hfull
      · have := hops_lt (List.getElem?_eq_some_iff.1 ht).1 h.ok.hand
        exact seek_found _ _ _ t f h.ok.hand (fun i hi => full_at hfull hi) ht hp (by omega)
    generalize seekS (2 * p.fr.length) p.fr p.hand = r at *
    rw [if_neg (by rw [hfd]; simp)]
    obtain ⟨f, e, hp, hu⟩ := h3 hfd
    rw [e]
    simp only
    have H1 : Heal Q PN { p with fr := r.1, hand := r.2.1 } V a b := h.frames hS rfl rfl (fun i f hi => by
      obtain ⟨u, hu⟩ := unU_at h1 hi
      exact ⟨i, _, hu, rfl, rfl, rfl, rfl⟩)
    have key : (saveS { p with fr := r.1, hand := r.2.1 } f).2 = 0 ∧ Heal Q PN (saveS { p with fr := r.1, hand := r.2.1 } f).1 V a b := by
      unfold saveS
      split
      · rename_i hd
        obtain ⟨ps, hV, hpp⟩ := H1.frm _ f e
        obtain ⟨g, hg, hR⟩ := H1.has _ _ hV
        have hpg := hl_pages H1.off (H1.name _ _ hV) hg
        rw [if_neg (by rw [hpg]; simp)]
        have hri := H1.ok.dl.rise_of f.name
        have hw := wb_heal hab hb (nm := f.name) (saved (dirtyOf p.dl f.name) (pagesP p.d f.name).1 f.k) H1 ?_ ?_ ?_
        · exact ⟨hw.1, hw.2.1⟩
        · unfold saved
          rw [List.pairwise_append]
          refine ⟨(hri.sublist (List.take_sublist _ _)).sublist (List.drop_sublist _ _), List.pairwise_singleton _ _, fun x hx y hy => ?_⟩
          rw [List.mem_singleton] at hy
          subst hy
          exact take_below hri (List.mem_of_mem_drop hx)
        · intro k hk
          unfold saved at hk
          rcases List.mem_append.1 hk with hk | hk
          · exact List.mem_of_mem_take (List.mem_of_mem_drop hk)
          · rw [List.mem_singleton] at hk
            subst hk
            exact hd
        · intro k hk j hj hjd hjm
          have hkf : k ≤ f.k := by
            unfold saved at hk
            rcases List.mem_append.1 hk with hk | hk
            · exact Nat.le_of_lt (take_below hri (List.mem_of_mem_drop hk))
            · rw [List.mem_singleton] at hk; omega
          unfold saved
          refine List.mem_append.2 (.inl ?_)
          have ht : (dirtyOf p.dl f.name |>.take (below (dirtyOf p.dl f.name) f.k)).Pairwise (· < ·) := hri.sublist (List.take_sublist _ _)
          have hjt : j ∈ (dirtyOf p.dl f.name).take (below (dirtyOf p.dl f.name) f.k) := by
            obtain ⟨x, hx⟩ := List.mem_iff_getElem?.1 (show j ∈ dirtyOf p.dl f.name from hjd)
            have := (below_iff hri f.k hx).2 (by omega)
            exact List.mem_iff_getElem?.2 ⟨x, by rw [List.getElem?_take, if_pos this]; exact hx⟩
          obtain ⟨x, hx⟩ := List.mem_iff_getElem?.1 hjt
          have hb2 : ¬ x < below ((dirtyOf p.dl f.name).take (below (dirtyOf p.dl f.name) f.k)) (pagesP p.d f.name).1 := by
            rw [below_iff ht _ hx]
            have : (pagesP p.d f.name).1 ≤ j := hjm
            omega
          exact List.mem_iff_getElem?.2 ⟨x - below ((dirtyOf p.dl f.name).take (below (dirtyOf p.dl f.name) f.k)) (pagesP p.d f.name).1, by rw [List.getElem?_drop, show below ((dirtyOf p.dl f.name).take (below (dirtyOf p.dl f.name) f.k)) (pagesP p.d f.name).1 + (x - below ((dirtyOf p.dl f.name).take (below (dirtyOf p.dl f.name) f.k)) (pagesP p.d f.name).1) = x by omega]; exact hx⟩
      · exact ⟨rfl, H1⟩
    obtain ⟨e1, -, -, -⟩ := save_same { p with fr := r.1, hand := r.2.1 } f
    generalize saveS { p with fr := r.1, hand := r.2.1 } f = q at *
    obtain ⟨k1, k2⟩ := key
    rw [if_neg (by omega)]
    intro T
    refine ⟨rfl, k2.frames T.ok rfl rfl (fun i f hi => ?_)⟩
    have hi : (q.1.fr.set r.2.1 none)[i]? = some (some f) := hi
    rw [List.getElem?_set] at hi
    split at hi
    · split at hi <;> cases hi
    · exact ⟨i, f, hi, rfl, rfl, rfl, rfl⟩
theorem hold_heal (h : Heal Q PN p V a b) (hab : 4 * (a * b) + 4 ≤ Q) (hb : b ≤ 1000) (hfree : Free p.fr) {nm : List UInt8} {k : Nat} (hk : some (nm, k) ∉ keysOf p.fr) (hPN : PN nm k = 0) {ps : List (List UInt8)} (hV : V nm = some ps) {t : List UInt8} (ht : ps[k]? = some t) :
    (holdS p nm k t).2.2 = 0 ∧ Heal Q PN (holdS p nm k t).1 V a b := by
  have hnm : nm.length ≤ 24 := by
    have := h.name _ _ hV
    unfold nameOk at this
    simp only [Bool.and_eq_true, decide_eq_true_eq] at this
    exact this.1.2
  obtain ⟨S, -⟩ := hold_spec h.ok hk hnm t
  obtain ⟨t1, t2⟩ := take_heal h hab hb hfree
  revert S
  unfold holdS
  generalize takeS p = q at *
  simp only
  rw [if_neg (by omega)]
  intro S
  refine ⟨rfl, ⟨t2.off, t2.armed, t2.q, t2.num, t2.big, t2.name, t2.short, t2.gone, t2.has, fun i f hi => ?_, fun i f hi => ?_, S.ok⟩⟩
  · have hi : (q.1.fr.set q.2.1 (some ⟨nm, k, t, 0, false⟩))[i]? = some (some f) := hi
    rw [List.getElem?_set] at hi
    split at hi
    · split at hi
      · cases hi; exact hPN.symm
      · cases hi
    · exact t2.pins i f hi
  · have hi : (q.1.fr.set q.2.1 (some ⟨nm, k, t, 0, false⟩))[i]? = some (some f) := hi
    rw [List.getElem?_set] at hi
    split at hi
    · split at hi
      · cases hi; exact ⟨ps, hV, ht⟩
      · cases hi
    · exact t2.frm i f hi
theorem on_at {q : Pst} {i : Nat} {g : Frm → Frm} {j : Nat} {f : Frm} (h : (onFr q i g).fr[j]? = some (some f)) : ∃ f0, q.fr[j]? = some (some f0) ∧ f = if i = j then g f0 else f0 := by
  have h : (q.fr.modify i (Option.map g))[j]? = some (some f) := h
  rw [List.getElem?_modify] at h
  cases e : q.fr[j]? with
  | none => rw [e] at h; cases h
  | some o =>
    rw [e] at h
    cases o with
    | none => simp at h
    | some f0 =>
      refine ⟨f0, rfl, ?_⟩
      simp only [Option.map_eq_map, Option.map_some, Option.some.injEq] at h
      split at h
      · rename_i h1
        rw [if_pos h1]
        simpa using h.symm
      · rename_i h1
        rw [if_neg h1]
        simpa using h.symm
theorem Heal.use (h : Heal Q PN p V a b) (i : Nat) : Heal Q PN (onFr p i useF) V a b := by
  have ep : pinN (onFr p i useF).fr = pinN p.fr := pin_modify (g := useF) (fun _ => rfl) i
  refine h.frames (h.ok.on (g := useF) (fun _ => rfl) (fun _ => rfl) i p.mostP (by rw [ep]; exact h.ok.mostP)) rfl rfl (fun j f hj => ?_)
  obtain ⟨f0, h1, rfl⟩ := on_at hj
  refine ⟨j, f0, h1, ?_⟩
  split <;> exact ⟨rfl, rfl, rfl, rfl⟩
theorem read_heal0 (h : Heal Q PN p V a b) {nm : List UInt8} {k : Nat} (hk : some (nm, k) ∉ keysOf p.fr) {ps : List (List UInt8)} (hV : V nm = some ps) {t : List UInt8} (ht : ps[k]? = some t) : readP p.d nm (k : Int) = (t, 0) := by
  obtain ⟨g, hg, m, hm, hms, hpg⟩ := h.has _ _ hV
  obtain ⟨h1, h2⟩ := hpg k t ht (fun hd => hk (h.ok.held nm k hd))
  exact hl_read h.off (h.name _ _ hV) hg hm h1 ((h.short _ _ hV).2 _ (List.mem_of_getElem? ht)) h2
theorem textF_on {q : Pst} {i : Nat} {f : Frm} (h : q.fr[i]? = some (some f)) (g : Frm → Frm) : textF (onFr q i g).fr i = (g f).b := by
  rw [onFr_set h]
  unfold textF
  rw [List.getElem?_set, if_pos rfl, if_pos (List.getElem?_eq_some_iff.1 h).1]
theorem bring_heal (h : Heal Q PN p V a b) (hab : 4 * (a * b) + 4 ≤ Q) (hb : b ≤ 1000) {nm : List UInt8} {k : Nat} (hnk : some (nm, k) ∉ keysOf p.fr → PN nm k = 0 ∧ Free p.fr) {ps : List (List UInt8)} (hV : V nm = some ps) {t : List UInt8} (ht : ps[k]? = some t) :
    (bringS p nm k).2.2 = 0 ∧ Heal Q PN (bringS p nm k).1 V a b ∧ textF (bringS p nm k).1.fr (bringS p nm k).2.1 = t := by
  unfold bringS
  cases e : p.fr.findIdx? (isAt nm k) with
  | some i =>
    obtain ⟨f, hf, h1, h2⟩ := idx_some e
    obtain ⟨qs, hq, hx⟩ := h.frm i f hf
    rw [h1] at hq
    obtain rfl := Option.some.inj (hV.symm.trans hq)
    rw [h2] at hx
    obtain rfl := Option.some.inj (ht.symm.trans hx)
    exact ⟨rfl, h.use i, textF_on hf useF⟩
  | none =>
    have hk := idx_none.1 e
    simp only
    rw [read_heal0 h hk hV ht, if_neg (by simp)]
    have hnm : nm.length ≤ 24 := by
      have := h.name _ _ hV
      unfold nameOk at this
      simp only [Bool.and_eq_true, decide_eq_true_eq] at this
      exact this.1.2
    obtain ⟨-, hT⟩ := hold_spec h.ok hk hnm t
    obtain ⟨q1, q2⟩ := hold_heal h hab hb (hnk hk).2 hk (hnk hk).1 hV ht
    simp only
    generalize holdS p nm k t = q at *
    rw [if_neg (by omega)]
    exact ⟨rfl, q2.use _, textF_on (hT q1) useF⟩

/-! ### What is answered -/
theorem find_heal (h : Heal Q PN p V a b) {nm : List UInt8} {ps : List (List UInt8)} (hV : V nm = some ps) : findP p nm = (ps.length, 0) := by
  obtain ⟨g, hg, hR⟩ := h.has _ _ hV
  obtain ⟨hm, hms, hpg⟩ := fileR_len hR
  have hn := h.name _ _ hV
  unfold findP
  rw [hl_open h.off hn hg hm, if_neg (by simp), hl_pages h.off hn hg]
  simp only
  congr 1
  have hlt : ∀ x ∈ dirtyOf p.dl nm, x < ps.length := fun x hx => by
    obtain ⟨i, f, hf, h1, h2⟩ := mem_keys.1 (h.ok.held nm x hx)
    obtain ⟨qs, hq, hxx⟩ := h.frm i f hf
    rw [h1] at hq
    obtain rfl := Option.some.inj (hV.symm.trans hq)
    rw [h2] at hxx
    exact (List.getElem?_eq_some_iff.1 hxx).1
  have hge : ps.length = g.now.length / 256 ∨ (0 < ps.length ∧ ps.length - 1 ∈ dirtyOf p.dl nm) := by
    by_cases e : ps.length = g.now.length / 256
    · exact .inl e
    · refine .inr ⟨by omega, Classical.byContradiction fun h3 => ?_⟩
      have hl : ps.length - 1 < ps.length := by omega
      have := (hpg _ _ (List.getElem?_eq_getElem hl) h3).1
      omega
  cases e : (dirtyOf p.dl nm).getLast? with
  | none =>
    rw [List.getLast?_eq_none_iff] at e
    simp only [Option.map_none, Option.getD_none]
    rcases hge with h1 | ⟨-, h1⟩
    · omega
    · rw [e] at h1; simp at h1
  | some y =>
    simp only [Option.map_some, Option.getD_some]
    have h1 := hlt y (List.mem_of_getLast? e)
    rcases hge with h2 | ⟨h0, h2⟩
    · omega
    · have := last_rise (h.ok.dl.rise_of nm) h2 e
      omega
theorem find_heal0 (h : Heal Q PN p V a b) {nm : List UInt8} (hV : V nm = none) : findP p nm = (0, nmE nm) := by
  unfold findP
  rw [hl_open0 h.off (h.gone nm hV), if_pos (nmE_pos nm)]
/-- what a Read answers -/
def readV (V : Vw) (nm : List UInt8) (k : Int) : List UInt8 × Nat :=
  match V nm with
  | none => ([], nmE nm)
  | some ps => if k < 0 then ([], 1) else match ps[k.toNat]? with
    | none => ([], 3)
    | some t => (t, 0)
theorem get_heal (h : Heal Q PN p V a b) (hab : 4 * (a * b) + 4 ≤ Q) (hb : b ≤ 1000) (nm : List UInt8) (k : Int) (hnk : some (nm, k.toNat) ∉ keysOf p.fr → PN nm k.toNat = 0 ∧ Free p.fr) : (getP p nm k).2.2 = (readV V nm k).2 ∧ Heal Q PN (getP p nm k).1 V a b ∧ ((getP p nm k).2.2 = 0 → textF (getP p nm k).1.fr (getP p nm k).2.1 = (readV V nm k).1) := by
  unfold getP readV
  cases e : V nm with
  | none =>
    rw [find_heal0 h e]
    simp only
    rw [if_pos (nmE_pos nm)]
    exact ⟨rfl, h, fun h0 => absurd h0 (nmE_pos nm)⟩
  | some ps =>
    rw [find_heal h e]
    simp only
    rw [if_neg (by simp)]
    by_cases h0 : k < 0
    · rw [if_pos h0, if_pos h0]
      exact ⟨rfl, h, fun h0 => by cases h0⟩
    · rw [if_neg h0, if_neg h0]
      cases e2 : ps[k.toNat]? with
      | none =>
        rw [List.getElem?_eq_none_iff] at e2
        rw [if_pos e2]
        exact ⟨rfl, h, fun h0 => by cases h0⟩
      | some t =>
        have := (List.getElem?_eq_some_iff.1 e2).1
        rw [if_neg (by omega)]
        obtain ⟨b1, b2, b3⟩ := bring_heal h hab hb hnk e e2
        exact ⟨b1, b2, fun _ => b3⟩
theorem readV_bad {V : Vw} {nm : List UInt8} {k : Int} (h : (readV V nm k).2 ≠ 0) : (readV V nm k).1 = [] := by
  unfold readV at *
  cases e : V nm with
  | none => rfl
  | some ps =>
    rw [e] at h
    simp only at h ⊢
    split
    · rfl
    · rename_i h0
      rw [if_neg h0] at h
      split
      · rfl
      · rename_i t ht
        rw [ht] at h
        simp at h
theorem read_heal (h : Heal Q PN p V a b) (hab : 4 * (a * b) + 4 ≤ Q) (hb : b ≤ 1000) (nm : List UInt8) (k : Int) (hnk : some (nm, k.toNat) ∉ keysOf p.fr → PN nm k.toNat = 0 ∧ Free p.fr) : (readPl p nm k).2 = readV V nm k ∧ Heal Q PN (readPl p nm k).1 V a b := by
  obtain ⟨g1, g2, g3⟩ := get_heal h hab hb nm k hnk
  unfold readPl
  generalize getP p nm k = q at *
  simp only
  split
  · rename_i h0
    refine ⟨?_, g2⟩
    have := readV_bad (V := V) (nm := nm) (k := k) (by rw [← g1]; exact h0)
    exact Prod.ext this.symm g1
  · rename_i h0
    have h0 : q.2.2 = 0 := by omega
    exact ⟨Prod.ext (g3 h0) (by rw [← g1, h0]), g2⟩
end
end Go.Proofs.YtamboappeahgpaaGreatDoor
/- Write, Create, Drop and Flush of a view of files; what is clean behind a Flush. -/
namespace Go.Proofs.YtamboappeahgpaaGreatDoor
open Go.RowKit
set_option linter.unusedSimpArgs false
set_option linter.unusedVariables false
set_option maxRecDepth 100000

section
variable {Q : Nat} {PN : List UInt8 → Nat → Nat} {p : Pst} {V : Vw} {a b : Nat}
theorem upV_self (V : Vw) (nm : List UInt8) (o : Option (List (List UInt8))) : upV V nm o nm = o := if_pos rfl
theorem upV_other (V : Vw) {nm x : List UInt8} (o : Option (List (List UInt8))) (h : x ≠ nm) : upV V nm o x = V x := if_neg h
/-- one page is put into a frame, and dirty -/
theorem Heal.put (h : Heal Q PN p V a b) {nm : List UInt8} {ps : List (List UInt8)} (hV : V nm = some ps) {k : Nat} (hk : k ≤ ps.length) {t : List UInt8} (ht : t.length ≤ 240) {p' : Pst} (ok : PstOk p') (hd : p'.d = p.d) (hdl : p'.dl = soilD p.dl nm k)
    (hfr : ∀ (j : Nat) (f : Frm), p'.fr[j]? = some (some f) → (f.name = nm ∧ f.k = k ∧ f.b = t ∧ f.pins = PN nm k) ∨ (∃ j' : Nat, p.fr[j']? = some (some f) ∧ ¬ (f.name = nm ∧ f.k = k))) :
    Heal Q PN p' (upV V nm (some (setP ps k t))) a (b + 1) := by
  refine ⟨by rw [hd]; exact h.off, by rw [hd]; exact h.armed, by rw [hd]; exact h.q, by rw [hd]; exact h.num, fun f hf => ?_, fun x qs hq => ?_, fun x qs hq => ?_, fun x hx => ?_, fun x qs hq => ?_, fun j f hj => ?_, fun j f hj => ?_, ok⟩
  · rw [hd] at hf
    have := h.big f hf
    omega
  · by_cases e : x = nm
    · subst e; exact h.name _ _ hV
    · rw [upV_other _ _ e] at hq; exact h.name _ _ hq
  · by_cases e : x = nm
    · subst e
      rw [upV_self] at hq
      obtain rfl := Option.some.inj hq
      obtain ⟨s1, s2⟩ := h.short _ _ hV
      refine ⟨by rw [setP_length hk]; omega, fun y hy => ?_⟩
      obtain ⟨i, hi⟩ := List.mem_iff_getElem?.1 hy
      rw [setP_get hk] at hi
      split at hi
      · cases hi; exact ht
      · exact s2 y (List.mem_of_getElem? hi)
    · rw [upV_other _ _ e] at hq
      obtain ⟨s1, s2⟩ := h.short _ _ hq
      exact ⟨by omega, s2⟩
  · by_cases e : x = nm
    · subst e; rw [upV_self] at hx; cases hx
    · rw [upV_other _ _ e] at hx; rw [hd]; exact h.gone x hx
  · by_cases e : x = nm
    · subst e
      rw [upV_self] at hq
      obtain rfl := Option.some.inj hq
      obtain ⟨g, hg, m, h1, h2, h3⟩ := h.has _ _ hV
      refine ⟨g, by rw [hd]; exact hg, m, h1, by rw [setP_length hk]; omega, fun i y hy hdi => ?_⟩
      rw [hdl, dirtyOf_soil] at hdi
      rw [setP_get hk] at hy
      split at hy
      · rename_i e2
        exact absurd (.inl ⟨rfl, e2⟩) hdi
      · exact h3 i y hy (fun h4 => hdi (.inr h4))
    · rw [upV_other _ _ e] at hq
      obtain ⟨g, hg, m, h1, h2, h3⟩ := h.has _ _ hq
      refine ⟨g, by rw [hd]; exact hg, m, h1, h2, fun i y hy hdi => h3 i y hy (fun h4 => hdi ?_)⟩
      rw [hdl, dirtyOf_soil]
      exact .inr h4
  · rcases hfr j f hj with ⟨e1, e2, -, e⟩ | ⟨j', hj', -⟩
    · rw [e, e1, e2]
    · exact h.pins j' f hj'
  · rcases hfr j f hj with ⟨e1, e2, e3, -⟩ | ⟨j', hj', hne⟩
    · refine ⟨setP ps k t, by rw [e1, upV_self], ?_⟩
      rw [e2, e3, setP_get hk, if_pos rfl]
    · obtain ⟨qs, hq, hx⟩ := h.frm j' f hj'
      by_cases e : f.name = nm
      · rw [e] at hq
        obtain rfl := Option.some.inj (hV.symm.trans hq)
        refine ⟨setP ps k t, by rw [e, upV_self], ?_⟩
        rw [setP_get hk, if_neg (fun e2 => hne ⟨e, e2⟩)]
        exact hx
      · exact ⟨qs, by rw [upV_other _ _ e]; exact hq, hx⟩
/-- what a Write makes of the files, and answers -/
def writeV (V : Vw) (nm : List UInt8) (k : Int) (t : List UInt8) : Vw × Nat :=
  if 240 < t.length then (V, 9) else match V nm with
  | none => (V, nmE nm)
  | some ps => if k < 0 ∨ ps.length < k.toNat then (V, 1) else (upV V nm (some (setP ps k.toNat t)), 0)
theorem Heal.more (h : Heal Q PN p V a b) {a' b' : Nat} (ha : a ≤ a') (hb : b ≤ b') : Heal Q PN p V a' b' :=
  ⟨h.off, h.armed, h.q, Nat.le_trans h.num ha, fun f hf => by have := h.big f hf; omega, h.name, fun nm ps hV => by obtain ⟨h1, h2⟩ := h.short nm ps hV; exact ⟨by omega, h2⟩, h.gone, h.has, h.pins, h.frm, h.ok⟩
theorem Heal.name24 (h : Heal Q PN p V a b) {nm : List UInt8} {ps : List (List UInt8)} (hV : V nm = some ps) : nm.length ≤ 24 := by
  have := h.name _ _ hV
  unfold nameOk at this
  simp only [Bool.and_eq_true, decide_eq_true_eq] at this
  exact this.1.2
theorem over_at {q : Pst} (one : One q.fr) {i : Nat} {f : Frm} (hf : q.fr[i]? = some (some f)) (t : List UInt8) {j : Nat} {g : Frm} (hj : (onFr q i (overF t)).fr[j]? = some (some g)) :
    (g.name = f.name ∧ g.k = f.k ∧ g.b = t ∧ g.pins = f.pins) ∨ (∃ j' : Nat, q.fr[j']? = some (some g) ∧ ¬ (g.name = f.name ∧ g.k = f.k)) := by
  obtain ⟨f0, h1, rfl⟩ := on_at hj
  by_cases e : i = j
  · subst e
    obtain rfl := Option.some.inj (Option.some.inj (hf.symm.trans h1))
    rw [if_pos rfl]
    exact .inl ⟨rfl, rfl, rfl, rfl⟩
  · rw [if_neg e]
    refine .inr ⟨j, h1, fun ⟨e1, e2⟩ => e ?_⟩
    have k1 := key_at hf
    have k2 := key_at h1
    rw [e1, e2] at k2
    exact one i j _ k1 k2
theorem write_heal (h : Heal Q PN p V a b) (hab : 4 * (a * b) + 4 ≤ Q) (hb : b ≤ 1000) (nm : List UInt8) (k : Int) (t : List UInt8) (hnk : some (nm, k.toNat) ∉ keysOf p.fr → PN nm k.toNat = 0 ∧ Free p.fr) : (writePl p nm k t).2 = (writeV V nm k t).2 ∧ Heal Q PN (writePl p nm k t).1 (writeV V nm k t).1 a (b + 1) := by
  have hm := h.more (Nat.le_refl a) (Nat.le_succ b)
  unfold writePl writeV
  split
  · exact ⟨rfl, hm⟩
  · rename_i ht
    cases e : V nm with
    | none =>
      rw [find_heal0 h e]
      simp only
      rw [if_pos (nmE_pos nm)]
      exact ⟨rfl, hm⟩
    | some ps =>
      rw [find_heal h e]
      simp only
      rw [if_neg (by simp)]
      split
      · exact ⟨rfl, hm⟩
      · rename_i hk
        have hk : k.toNat ≤ ps.length := by omega
        cases e2 : p.fr.findIdx? (isAt nm k.toNat) with
        | some i =>
          obtain ⟨f, hf, h1, h2⟩ := idx_some e2
          obtain ⟨h3, -⟩ := over_ok h.ok hf t
          rw [h1, h2] at h3
          refine ⟨rfl, h.put e hk (by omega) h3 rfl rfl (fun j g hj => ?_)⟩
          have := over_at h.ok.one' hf t hj
          rw [h.pins i f hf, h1, h2] at this
          exact this
        | none =>
          have hkn := idx_none.1 e2
          obtain ⟨T, hT⟩ := hold_spec h.ok hkn (h.name24 e) []
          obtain ⟨t1, t2⟩ := take_heal h hab hb (hnk hkn).2
          have TK := take_spec h.ok
          revert T hT
          unfold holdS
          generalize takeS p = q at *
          simp only
          rw [if_neg (by omega)]
          intro T hT
          simp only
          rw [if_neg (by simp)]
          have hf := hT rfl
          generalize hq : ({ q.1 with fr := q.1.fr.set q.2.1 (some ⟨nm, k.toNat, [], 0, false⟩), mostR := max q.1.mostR (resN (q.1.fr.set q.2.1 (some ⟨nm, k.toNat, [], 0, false⟩))) } : Pst) = r at *
          have hrd : r.d = q.1.d := by rw [← hq]
          have hrl : r.dl = q.1.dl := by rw [← hq]
          have hrf : r.fr = q.1.fr.set q.2.1 (some ⟨nm, k.toNat, [], 0, false⟩) := by rw [← hq]
          obtain ⟨h3, -⟩ := over_ok T.ok hf t
          refine ⟨rfl, t2.put e hk (by omega) (by have h4 := h3; simp only [hrl] at h4; exact h4) hrd rfl (fun j g hj => ?_)⟩
          rcases over_at T.ok.one' hf t hj with ⟨h5, h6, h7, h8⟩ | ⟨j', h5, h6⟩
          · exact .inl ⟨h5, h6, h7, h8.trans (hnk hkn).1.symm⟩
          · rw [hrf, List.getElem?_set] at h5
            split at h5
            · split at h5
              · cases h5
                exact absurd ⟨rfl, rfl⟩ h6
              · cases h5
            · exact .inr ⟨j', h5, h6⟩
/-! ### Create, Drop -/
def createV (V : Vw) (nm : List UInt8) : Vw × Nat :=
  if nameOk nm = false then (V, 1) else match V nm with
  | some _ => (V, 4)
  | none => (upV V nm (some []), 0)
theorem hl_put_self {l : List Fl} {f : Fl} (h : getF l f.name = none) : getF (putF l f) f.name = some f := by
  induction l with
  | nil => simp [putF, getF]
  | cons g l ih =>
    rw [getF_cons] at h
    unfold putF
    by_cases e : g.name = f.name
    · rw [if_pos e] at h; cases h
    · rw [if_neg e] at h
      split
      · rw [getF_cons, if_neg e]; exact ih h
      · rw [getF_cons, if_pos rfl]
theorem hl_put_mem {l : List Fl} {f g : Fl} (h : g ∈ putF l f) : g = f ∨ g ∈ l := by
  induction l with
  | nil => simp [putF] at h; exact .inl h
  | cons x l ih =>
    unfold putF at h
    split at h
    · rcases List.mem_cons.1 h with rfl | h
      · exact .inr (List.mem_cons_self)
      · exact (ih h).imp id (List.mem_cons_of_mem _)
    · rcases List.mem_cons.1 h with rfl | h
      · exact .inl rfl
      · exact .inr h
theorem hl_put_len (l : List Fl) (f : Fl) : (putF l f).length = l.length + 1 := by
  induction l with
  | nil => rfl
  | cons x l ih =>
    unfold putF
    split
    · simp [ih]
    · simp
theorem hl_del_self (l : List Fl) (nm : List UInt8) : getF (delF l nm) nm = none := by
  unfold getF delF
  rw [List.find?_eq_none]
  intro x hx
  have := (List.mem_filter.1 hx).2
  simpa using this
theorem create_heal (h : Heal Q PN p V a b) (nm : List UInt8) : (createPl p nm).2 = (createV V nm).2 ∧ Heal Q PN (createPl p nm).1 (createV V nm).1 (a + 1) b := by
  have hm := h.more (Nat.le_succ a) (Nat.le_refl b)
  unfold createPl createS createV
  rw [hl_gone h.armed, h.off, if_neg (by simp)]
  by_cases hn : nameOk nm = false
  · rw [if_pos hn, if_pos hn]
    exact ⟨rfl, hm⟩
  · rw [if_neg hn, if_neg hn]
    cases e : V nm with
    | some ps =>
      obtain ⟨g, hg, -⟩ := h.has _ _ e
      rw [hg, if_pos (by simp)]
      exact ⟨rfl, hm⟩
    | none =>
      have hg := h.gone _ e
      rw [hg, if_neg (by simp)]
      show 0 = 0 ∧ Heal Q PN _ (upV V nm (some [])) (a + 1) b
      refine ⟨rfl, ⟨h.off, h.armed, h.q, ?_, fun f hf => ?_, fun x ps hx => ?_, fun x ps hx => ?_, fun x hx => ?_, fun x ps hx => ?_, h.pins, fun i f hi => ?_, h.ok.disk _⟩⟩
      · show (putF p.d.l _).length ≤ _
        rw [hl_put_len]; have := h.num; omega
      · rcases hl_put_mem hf with rfl | hf
        · simp
        · exact h.big f hf
      · by_cases e2 : x = nm
        · subst e2; simpa using hn
        · rw [upV_other _ _ e2] at hx; exact h.name _ _ hx
      · by_cases e2 : x = nm
        · subst e2
          rw [upV_self] at hx
          cases hx
          exact ⟨Nat.zero_le _, by simp⟩
        · rw [upV_other _ _ e2] at hx; exact h.short _ _ hx
      · have e2 : x ≠ nm := by rintro rfl; rw [upV_self] at hx; cases hx
        rw [upV_other _ _ e2] at hx
        show getF (putF p.d.l _) x = none
        rw [getF_put _ _ _ (fun e3 => e2 e3.symm)]
        exact h.gone x hx
      · by_cases e2 : x = nm
        · subst e2
          rw [upV_self] at hx
          cases hx
          exact ⟨⟨x, [], [], fun _ => false⟩, hl_put_self (f := ⟨x, [], [], fun _ => false⟩) hg, 0, rfl, Nat.zero_le _, fun k y hy => by simp at hy⟩
        · rw [upV_other _ _ e2] at hx
          obtain ⟨g, h1, h2⟩ := h.has _ _ hx
          refine ⟨g, ?_, h2⟩
          show getF (putF p.d.l _) x = _
          rw [getF_put _ _ _ (fun e3 => e2 e3.symm)]
          exact h1
      · obtain ⟨ps, h1, h2⟩ := h.frm i f hi
        exact ⟨ps, by rw [upV_other _ _ (by rintro rfl; rw [e] at h1; cases h1)]; exact h1, h2⟩
def dropE (V : Vw) (nm : List UInt8) : Nat := match V nm with
  | none => nmE nm
  | some _ => 0
theorem remove_heal (h : Heal Q PN p V a b) (nm : List UInt8) : removeS p.d nm = ({ p.d with l := delF p.d.l nm }, dropE V nm) := by
  unfold removeS dropE
  rw [hl_gone h.armed, h.off, if_neg (by simp)]
  cases e : V nm with
  | none =>
    have hg := h.gone _ e
    have hd : delF p.d.l nm = p.d.l := by
      unfold delF
      rw [List.filter_eq_self]
      intro x hx
      have := List.find?_eq_none.1 hg x hx
      simpa using this
    unfold nmE
    rw [hg, hd]
    have := h.off
    cases nameOk nm <;> simp
  | some ps =>
    obtain ⟨g, hg, -⟩ := h.has _ _ e
    rw [hg, h.name _ _ e]
    simp [h.off]
theorem drop_heal (h : Heal Q PN p V a b) (hz : ∀ a b, PN a b = 0) (nm : List UInt8) : (dropPl p nm).2 = dropE V nm ∧ Heal Q PN (dropPl p nm).1 (upV V nm none) a b ∧ (dropPl p nm).1.d.l = delF p.d.l nm := by
  have W := drop_well h.ok nm
  revert W
  unfold dropPl
  have hno : p.fr.any (fun o => isOf nm o && isPin o) = false := by
    rw [List.any_eq_false]
    intro o ho
    cases o with
    | none => simp [isPin]
    | some f =>
      obtain ⟨i, hi⟩ := List.mem_iff_getElem?.1 ho
      simp [isPin, h.pins i f hi, hz]
  rw [hno, if_neg (by simp), remove_heal h nm]
  intro W
  refine ⟨rfl, ⟨h.off, h.armed, h.q, ?_, fun f hf => ?_, fun x ps hx => ?_, fun x ps hx => ?_, fun x hx => ?_, fun x ps hx => ?_, fun i f hi => ?_, fun i f hi => ?_, W.ok⟩, rfl⟩
  · exact Nat.le_trans (List.length_filter_le _ _) h.num
  · exact h.big f (List.mem_filter.1 hf).1
  · have e2 : x ≠ nm := by rintro rfl; rw [upV_self] at hx; cases hx
    rw [upV_other _ _ e2] at hx; exact h.name _ _ hx
  · have e2 : x ≠ nm := by rintro rfl; rw [upV_self] at hx; cases hx
    rw [upV_other _ _ e2] at hx; exact h.short _ _ hx
  · show getF (delF p.d.l nm) x = none
    by_cases e2 : x = nm
    · subst e2; exact hl_del_self _ _
    · rw [upV_other _ _ e2] at hx
      rw [getF_del _ _ _ (fun e3 => e2 e3.symm)]
      exact h.gone x hx
  · have e2 : x ≠ nm := by rintro rfl; rw [upV_self] at hx; cases hx
    rw [upV_other _ _ e2] at hx
    obtain ⟨g, h1, m, h2, h3, h4⟩ := h.has _ _ hx
    refine ⟨g, ?_, m, h2, h3, fun k y hy hd => h4 k y hy (fun h5 => hd ?_)⟩
    · show getF (delF p.d.l nm) x = _
      rw [getF_del _ _ _ (fun e3 => e2 e3.symm)]
      exact h1
    · show k ∈ dirtyOf (delM p.dl nm) x
      rw [dirtyOf_del, if_neg e2]
      exact h5
  · exact h.pins i f (drop_at.1 (show (dropF p.fr nm)[i]? = some (some f) from hi)).1
  · obtain ⟨h1, h2⟩ := drop_at.1 (show (dropF p.fr nm)[i]? = some (some f) from hi)
    obtain ⟨ps, h3, h4⟩ := h.frm i f h1
    exact ⟨ps, by rw [upV_other _ _ h2]; exact h3, h4⟩

/-! ### Flush -/
/-- nothing of a file is dirty, or loose -/
structure Tidy (p : Pst) (nm : List UInt8) : Prop where
  dl : dirtyOf p.dl nm = []
  file : ∀ f, getF p.d.l nm = some f → f.lasts = f.now ∧ ∀ k, f.loose k = false
def flushE (V : Vw) (nm : List UInt8) : Nat := match V nm with
  | none => nmE nm
  | some _ => 0
theorem flush_heal (h : Heal Q PN p V a b) (hab : 4 * (a * b) + 4 ≤ Q) (hb : b ≤ 1000) (nm : List UInt8) : (flushPl p nm).2 = flushE V nm ∧ Heal Q PN (flushPl p nm).1 V a b ∧ (V nm ≠ none → Tidy (flushPl p nm).1 nm) ∧ (∀ x, Tidy p x → x ≠ nm → Tidy (flushPl p nm).1 x) := by
  unfold flushPl flushE
  cases e : V nm with
  | none =>
    rw [find_heal0 h e]
    simp only
    rw [if_pos (nmE_pos nm)]
    exact ⟨rfl, h, fun h => absurd rfl h, fun x hx _ => hx⟩
  | some ps =>
    rw [find_heal h e]
    simp only
    rw [if_neg (by simp)]
    obtain ⟨w1, w2, w3, w4⟩ := wb_heal hab hb (nm := nm) (dirtyOf p.dl nm) h (h.ok.dl.rise_of nm) (fun _ h => h) (fun _ _ j _ h _ => h)
    generalize wbS p ((dirtyOf p.dl nm).filterMap (frmOf p.fr nm)) = q at *
    rw [if_neg (by omega)]
    obtain ⟨g, hg, hR⟩ := w2.has _ _ e
    have hn := h.name _ _ e
    have hgn := getF_name hg
    have hs : syncS q.1.d nm = ({ q.1.d with l := setF q.1.d.l (syncF g) }, 0) := by
      unfold syncS
      rw [hl_gone w2.armed, w2.off, hn, hg]
      simp [w2.off]
    rw [hs]
    simp only
    have hgs : (syncF g).name = nm := hgn
    refine ⟨trivial, ⟨w2.off, w2.armed, w2.q, by rw [show (setF q.1.d.l (syncF g)).length = _ from hl_set_len _ _]; exact w2.num, fun x hx => ?_, w2.name, w2.short, fun x hx => ?_, fun x qs hx => ?_, w2.pins, w2.frm, w2.ok.disk _⟩, fun _ => ⟨?_, fun f hf => ?_⟩, fun x hx hne => ⟨?_, fun f hf => ?_⟩⟩
    · rcases hl_set_mem hx with rfl | hx
      · exact w2.big g (getF_mem hg)
      · exact w2.big x hx
    · show getF (setF q.1.d.l (syncF g)) x = none
      rw [getF_set _ _ _ (by rw [hgs]; rintro rfl; rw [e] at hx; cases hx)]
      exact w2.gone x hx
    · by_cases e2 : x = nm
      · subst e2
        obtain rfl := Option.some.inj (e.symm.trans hx)
        exact ⟨syncF g, hl_set_self hg hgs, hR⟩
      · obtain ⟨f, h1, h2⟩ := w2.has _ _ hx
        refine ⟨f, ?_, h2⟩
        show getF (setF q.1.d.l (syncF g)) x = _
        rw [getF_set _ _ _ (by rw [hgs]; exact fun e3 => e2 e3.symm)]
        exact h1
    · show dirtyOf q.1.dl nm = []
      rw [List.eq_nil_iff_forall_not_mem]
      intro x hx
      have := (w3 nm x).1 hx
      exact this.2 ⟨rfl, this.1⟩
    · have hf : getF (setF q.1.d.l (syncF g)) nm = some f := hf
      rw [hl_set_self hg hgs] at hf
      cases hf
      exact ⟨rfl, fun _ => rfl⟩
    · show dirtyOf q.1.dl x = []
      rw [List.eq_nil_iff_forall_not_mem]
      intro y hy
      have := ((w3 x y).1 hy).1
      rw [hx.dl] at this
      simp at this
    · have hf : getF (setF q.1.d.l (syncF g)) x = some f := hf
      rw [getF_set _ _ _ (by rw [hgs]; exact fun e3 => hne e3.symm), w4 x hne] at hf
      exact hx.file f hf
end
end Go.Proofs.YtamboappeahgpaaGreatDoor
/- What is behind Flushes of all files; a new pool over such a disk; two such disks of one view are alike. -/
namespace Go.Proofs.YtamboappeahgpaaGreatDoor
open Go.RowKit
set_option linter.unusedSimpArgs false
set_option linter.unusedVariables false
set_option maxRecDepth 100000

/-- what is done to a view of files, and answered: bytes, a number, an error -/
def doV (V : Vw) (kind : Int) (nm : List UInt8) (k : Int) (t : List UInt8) : Vw × List UInt8 × Nat × Nat :=
  if kind = 0 then ((createV V nm).1, [], 0, (createV V nm).2)
  else if kind = 1 then (upV V nm none, [], 0, dropE V nm)
  else if kind = 2 then (V, [], ((V nm).map List.length).getD 0, flushE V nm)
  else if kind = 5 then (V, (readV V nm k).1, 0, (readV V nm k).2)
  else if kind = 6 then ((writeV V nm k t).1, t, 0, (writeV V nm k t).2)
  else (V, [], 0, flushE V nm)
section
variable {Q : Nat} {PN : List UInt8 → Nat → Nat} {p : Pst} {V : Vw} {a b : Nat}
theorem heal_new {d : Ds} {n : Nat} (hn : 1 ≤ n ∧ n ≤ 4096) (h1 : d.off = false) (h2 : d.armed = 0) (h3 : Q ≤ d.q) (h4 : d.l.length ≤ a) (h5 : ∀ f ∈ d.l, f.now.length ≤ 256 * b) (h6 : ∀ nm ps, V nm = some ps → nameOk nm = true)
    (h7 : ∀ nm ps, V nm = some ps → ps.length ≤ b ∧ ∀ x ∈ ps, x.length ≤ 240) (h8 : ∀ nm, V nm = none → getF d.l nm = none) (h9 : ∀ nm ps, V nm = some ps → ∃ f, getF d.l nm = some f ∧ FileR [] nm f ps) : Heal Q PN (newPl d n) V a b := by
  have hf : ∀ (i : Nat) (f : Frm), (newPl d n).fr[i]? ≠ some (some f) := fun i f e => by
    have := List.eq_of_mem_replicate (List.mem_of_getElem? (show (List.replicate n (none : Option Frm))[i]? = some (some f) from e))
    cases this
  exact ⟨h1, h2, h3, h4, h5, h6, h7, h8, h9, fun i f e => absurd e (hf i f), fun i f e => absurd e (hf i f), (new_ok d hn).1⟩
theorem heal_first {n : Nat} (hn : 1 ≤ n ∧ n ≤ 4096) {q : Nat} (hq : Q ≤ q) : Heal Q PN (newPl ⟨[], q, 0, false⟩ n) (fun _ => none) 0 0 :=
  heal_new hn rfl rfl hq (Nat.le_refl _) (fun f hf => by simp at hf) (fun nm ps h => by cases h) (fun nm ps h => by cases h) (fun nm _ => rfl) (fun nm ps h => by cases h)
/-! ### All is flushed -/
def AllTidy (p : Pst) (V : Vw) : Prop := ∀ nm, V nm ≠ none → Tidy p nm
theorem tidy_dl (h : Heal Q PN p V a b) (t : AllTidy p V) : p.dl = [] := by
  rw [List.eq_nil_iff_forall_not_mem]
  rintro ⟨nm, l⟩ hm
  have h1 := (h.ok.dl.rise nm l hm).1
  have h2 : dirtyOf p.dl nm = l := by unfold dirtyOf; rw [lookM_of_mem h.ok.dl.once hm]; rfl
  cases l with
  | nil => exact h1 rfl
  | cons x l =>
    have h3 : x ∈ dirtyOf p.dl nm := by rw [h2]; exact List.mem_cons_self
    obtain ⟨i, f, hf, e1, -⟩ := mem_keys.1 (h.ok.held nm x h3)
    obtain ⟨ps, hV, -⟩ := h.frm i f hf
    rw [e1] at hV
    rw [(t nm (by rw [hV]; simp)).dl] at h3
    simp at h3
theorem tidy_dirty (h : Heal Q PN p V a b) (t : AllTidy p V) : dirN p.dl = 0 := by rw [tidy_dl h t]; rfl
theorem hl_get_mem {l : List Fl} (h : l.Pairwise fun f g => f.name < g.name) {f : Fl} (hf : f ∈ l) : getF l f.name = some f := by
  induction l with
  | nil => simp at hf
  | cons g l ih =>
    obtain ⟨h1, h2⟩ := List.pairwise_cons.1 h
    rw [getF_cons]
    rcases List.mem_cons.1 hf with rfl | hf
    · rw [if_pos rfl]
    · rw [if_neg (fun e => by have := h1 f hf; rw [e] at this; exact List.lt_irrefl _ this)]
      exact ih h2 hf
theorem Heal.known (h : Heal Q PN p V a b) {nm : List UInt8} {f : Fl} (hf : getF p.d.l nm = some f) : ∃ ps, V nm = some ps := by
  cases e : V nm with
  | none => rw [h.gone nm e] at hf; cases hf
  | some ps => exact ⟨ps, rfl⟩
theorem tidy_loose (h : Heal Q PN p V a b) (hr : p.d.l.Pairwise fun f g => f.name < g.name) (t : AllTidy p V) : placesL p.d.l = [] := by
  unfold placesL
  rw [List.flatMap_eq_nil_iff]
  intro f hf
  have hg := hl_get_mem hr hf
  obtain ⟨ps, hV⟩ := h.known hg
  have := ((t _ (by rw [hV]; simp)).file f hg).2
  rw [List.map_eq_nil_iff]
  unfold looseF
  rw [List.filter_eq_nil_iff]
  intro k _
  rw [this k]
  simp
theorem fileR_now {nm : List UInt8} {f : Fl} {ps : List (List UInt8)} (hp : ∀ x ∈ ps, x.length ≤ 240) (h : FileR [] nm f ps) : f.now.length = 256 * ps.length ∧ ∀ (k : Nat) (x : List UInt8), ps[k]? = some x → pageAt f k = pageB (tagN nm) k x := by
  obtain ⟨m, h1, h2, h3⟩ := h
  have h4 : ∀ k, k ∉ dirtyOf [] nm := fun k => by simp [dirtyOf, lookM]
  refine ⟨?_, fun k x hx => (h3 k x hx (h4 k)).2⟩
  by_cases e : ps.length = 0
  · omega
  · have hl : ps.length - 1 < ps.length := by omega
    have := (h3 _ _ (List.getElem?_eq_getElem hl) (h4 _)).1
    omega
theorem fileR_same {nm : List UInt8} {f g : Fl} {ps : List (List UInt8)} (hp : ∀ x ∈ ps, x.length ≤ 240) (h1 : FileR [] nm f ps) (h2 : FileR [] nm g ps) : f.now = g.now := by
  obtain ⟨a1, a2⟩ := fileR_now hp h1
  obtain ⟨b1, b2⟩ := fileR_now hp h2
  apply List.ext_getElem?
  intro i
  by_cases hi : i < 256 * ps.length
  · have hk : i / 256 < ps.length := by omega
    have e1 := a2 _ _ (List.getElem?_eq_getElem hk)
    rw [← b2 _ _ (List.getElem?_eq_getElem hk)] at e1
    have e2 := congrArg (fun l : List UInt8 => l[i % 256]?) e1
    simp only [pageAt_get] at e2
    rw [if_pos (by omega), if_pos (by omega), show 256 * (i / 256) + i % 256 = i by omega] at e2
    exact e2
  · rw [List.getElem?_eq_none (by omega), List.getElem?_eq_none (by omega)]
theorem hl_same : ∀ {l l' : List Fl}, (l.Pairwise fun f g => f.name < g.name) → (l'.Pairwise fun f g => f.name < g.name) → (∀ nm, (getF l nm).map (·.now) = (getF l' nm).map (·.now)) → l.map (fun f => (f.name, f.now)) = l'.map (fun f => (f.name, f.now))
  | [], [], _, _, _ => rfl
  | [], g :: l', _, _, h => by
    have := h g.name
    rw [getF_cons, if_pos rfl] at this
    simp [getF] at this
  | f :: l, [], _, _, h => by
    have := h f.name
    rw [getF_cons, if_pos rfl] at this
    simp [getF] at this
  | f :: l, g :: l', h1, h2, h => by
    obtain ⟨a1, a2⟩ := List.pairwise_cons.1 h1
    obtain ⟨b1, b2⟩ := List.pairwise_cons.1 h2
    have key : ∀ {l : List Fl} {nm : List UInt8} {y : List UInt8}, (getF l nm).map (·.now) = some y → ∃ x ∈ l, x.name = nm := fun {l nm y} e => by
      obtain ⟨x, hx, -⟩ := Option.map_eq_some_iff.1 e
      exact ⟨x, getF_mem hx, getF_name hx⟩
    have e : f.name = g.name := by
      refine Classical.byContradiction fun hne => ?_
      have hf := h f.name
      have hg := h g.name
      rw [getF_cons, if_pos rfl, getF_cons, if_neg (fun e => hne e.symm)] at hf
      rw [getF_cons, if_neg hne, getF_cons, if_pos rfl] at hg
      obtain ⟨x, hx, e1⟩ := key (hf.symm.trans rfl)
      obtain ⟨y, hy, e2⟩ := key (hg.trans rfl)
      have l1 := b1 x hx
      have l2 := a1 y hy
      rw [e1] at l1
      rw [e2] at l2
      exact List.lt_irrefl _ (List.lt_trans l1 l2)
    have hn : f.now = g.now := by
      have hf := h f.name
      rw [getF_cons, if_pos rfl, getF_cons, if_pos e.symm] at hf
      simpa using hf
    rw [List.map_cons, List.map_cons, e, hn]
    congr 1
    refine hl_same a2 b2 fun nm => ?_
    by_cases e3 : nm = f.name
    · subst e3
      have n1 : getF l f.name = none := by
        unfold getF
        rw [List.find?_eq_none]
        intro x hx e4
        have := a1 x hx
        rw [of_decide_eq_true e4] at this
        exact List.lt_irrefl _ this
      have n2 : getF l' f.name = none := by
        unfold getF
        rw [List.find?_eq_none]
        intro x hx e4
        have := b1 x hx
        rw [of_decide_eq_true e4, e] at this
        exact List.lt_irrefl _ this
      rw [n1, n2]
    · have := h nm
      rw [getF_cons, if_neg (fun e4 => e3 e4.symm), getF_cons, if_neg (fun e4 => e3 (e4.symm.trans e.symm))] at this
      exact this
theorem tidy_same {q : Pst} {a' b' : Nat} (h : Heal Q PN p V a b) (g : Heal Q PN q V a' b') (hr : p.d.l.Pairwise fun f g => f.name < g.name) (gr : q.d.l.Pairwise fun f g => f.name < g.name) (t : AllTidy p V) (u : AllTidy q V) :
    p.d.l.map (fun f => (f.name, f.now)) = q.d.l.map (fun f => (f.name, f.now)) := by
  refine hl_same hr gr fun nm => ?_
  cases e : V nm with
  | none => rw [h.gone nm e, g.gone nm e]
  | some ps =>
    obtain ⟨f1, e1, r1⟩ := h.has nm ps e
    obtain ⟨f2, e2, r2⟩ := g.has nm ps e
    rw [tidy_dl h t] at r1
    rw [tidy_dl g u] at r2
    rw [e1, e2, Option.map_some, Option.map_some, fileR_same (h.short nm ps e).2 r1 r2]
/-! ### Behind a loss of power -/
theorem hl_back_get (nm : List UInt8) : ∀ (l : List Fl) (base : Nat), getF (backL [] l base) nm = (getF l nm).map fun f => ⟨f.name, f.lasts, f.lasts, fun _ => false⟩
  | [], _ => rfl
  | f :: l, base => by
    unfold backL
    rw [getF_cons, getF_cons, backF_nil]
    split
    · rfl
    · exact hl_back_get nm l _
theorem hl_back_mem {g : Fl} : ∀ {l : List Fl} {base : Nat}, g ∈ backL [] l base → ∃ f ∈ l, g.now = f.lasts
  | [], _, h => by simp [backL] at h
  | f :: l, base, h => by
    unfold backL at h
    rw [backF_nil] at h
    rcases List.mem_cons.1 h with rfl | h
    · exact ⟨f, List.mem_cons_self, rfl⟩
    · obtain ⟨x, hx, e⟩ := hl_back_mem h
      exact ⟨x, List.mem_cons_of_mem _ hx, e⟩
theorem hl_back_len : ∀ (l : List Fl) (base : Nat), (backL [] l base).length = l.length
  | [], _ => rfl
  | f :: l, base => by
    unfold backL
    rw [List.length_cons, List.length_cons, hl_back_len l]
theorem tidy_back (h : Heal Q PN p V a b) (hr : p.d.l.Pairwise fun f g => f.name < g.name) (t : AllTidy p V) {n : Nat} (hn : 1 ≤ n ∧ n ≤ 4096) : Heal Q PN (newPl ⟨backL [] p.d.l 0, p.d.q, 0, false⟩ n) V a b := by
  have hl : ∀ f ∈ p.d.l, f.lasts = f.now := fun f hf => by
    have hg := hl_get_mem hr hf
    obtain ⟨ps, hV⟩ := h.known hg
    exact ((t _ (by rw [hV]; simp)).file f hg).1
  refine heal_new hn rfl rfl h.q (by rw [hl_back_len]; exact h.num) (fun f hf => ?_) h.name h.short (fun nm hV => ?_) (fun nm ps hV => ?_)
  · obtain ⟨g, hg, e⟩ := hl_back_mem hf
    rw [e, hl g hg]
    exact h.big g hg
  · show getF (backL [] p.d.l 0) nm = none
    rw [hl_back_get, h.gone nm hV]
    rfl
  · obtain ⟨g, hg, hR⟩ := h.has nm ps hV
    refine ⟨⟨g.name, g.lasts, g.lasts, fun _ => false⟩, ?_, ?_⟩
    · show getF (backL [] p.d.l 0) nm = _
      rw [hl_back_get, hg]
      rfl
    · rw [tidy_dl h t] at hR
      obtain ⟨m, h1, h2, h3⟩ := hR
      have e := hl g (getF_mem hg)
      exact ⟨m, by rw [e]; exact h1, h2, fun k x hx hd => ⟨(h3 k x hx hd).1, by
        have h4 := (h3 k x hx hd).2
        unfold pageAt at h4 ⊢
        rw [e]
        exact h4⟩⟩
end
theorem prod_le : ∀ a b : Nat, a + b ≤ 150 → a * b ≤ 5625 := by
  intro a b h
  have h1 : ∀ a, a < 151 → a * (150 - a) ≤ 5625 := by decide
  have h2 := h1 a (by omega)
  have h3 : a * b ≤ a * (150 - a) := Nat.mul_le_mul_left _ (by omega)
  omega
end Go.Proofs.YtamboappeahgpaaGreatDoor
/- What is done without pins, of a pool and of the view of its files; Flushes of all files, one behind the other. -/
namespace Go.Proofs.YtamboappeahgpaaGreatDoor
open Go.RowKit
set_option linter.unusedSimpArgs false
set_option linter.unusedVariables false
set_option maxRecDepth 100000

def plainK (k : Int) : Prop := k = 0 ∨ k = 1 ∨ k = 2 ∨ k = 5 ∨ k = 6 ∨ k = 7
instance (k : Int) : Decidable (plainK k) := by unfold plainK; infer_instance
/-- a view of a pool, behind so many things done -/
def HealC (p : Pst) (V : Vw) (c : Nat) : Prop := ∃ a b, a + b ≤ c ∧ Heal 65536 (fun _ _ => 0) p V a b
theorem healC_first {n : Nat} (hn : 1 ≤ n ∧ n ≤ 4096) : HealC (newPl ⟨[], 65536, 0, false⟩ n) (fun _ => none) 0 := ⟨0, 0, Nat.le_refl _, heal_first hn (Nat.le_refl _)⟩
/-- a frame can be had where none is pinned -/
theorem Heal.free {Q : Nat} {PN : List UInt8 → Nat → Nat} {p : Pst} {V : Vw} {a b : Nat} (h : Heal Q PN p V a b) (hz : ∀ a b, PN a b = 0) : Free p.fr := by
  by_cases e : resN p.fr < p.fr.length
  · exact .inl e
  · obtain ⟨f, hf⟩ := full_at e (i := 0) (by have := h.ok.n; omega)
    exact .inr ⟨0, f, hf, by rw [h.pins 0 f hf, hz]⟩
section
variable {p : Pst} {V : Vw} {c : Nat}
theorem HealC.step (h : HealC p V c) (hc : c ≤ 150) {o : Op10} (hk : plainK o.kind) : (doP p o).2 = (doV V o.kind o.name o.k o.b).2 ∧ HealC (doP p o).1 (doV V o.kind o.name o.k o.b).1 (c + 1) := by
  obtain ⟨a, b, hab, h⟩ := h
  have hm : 4 * (a * b) + 4 ≤ 65536 := by have := prod_le a b (by omega); omega
  have hz : ∀ (x : List UInt8) (y : Nat), (fun (_ : List UInt8) (_ : Nat) => 0) x y = 0 := fun _ _ => rfl
  have hnk : some (o.name, o.k.toNat) ∉ keysOf p.fr → (fun (_ : List UInt8) (_ : Nat) => 0) o.name o.k.toNat = 0 ∧ Free p.fr := fun _ => ⟨rfl, h.free hz⟩
  have hb : b ≤ 1000 := by omega
  rcases hk with e | e | e | e | e | e
  · have hd : doP p o = ((createPl p o.name).1, [], 0, (createPl p o.name).2) := by unfold doP; rw [e]; rfl
    have hv : doV V o.kind o.name o.k o.b = ((createV V o.name).1, [], 0, (createV V o.name).2) := by unfold doV; rw [e]; rfl
    rw [hd, hv]
    obtain ⟨h1, h2⟩ := create_heal h o.name
    exact ⟨by simp only; rw [h1], a + 1, b, by omega, h2⟩
  · have hd : doP p o = ((dropPl p o.name).1, [], 0, (dropPl p o.name).2) := by unfold doP; rw [e]; rfl
    have hv : doV V o.kind o.name o.k o.b = (upV V o.name none, [], 0, dropE V o.name) := by unfold doV; rw [e]; rfl
    rw [hd, hv]
    obtain ⟨h1, h2, -⟩ := drop_heal h hz o.name
    exact ⟨by simp only; rw [h1], a, b, by omega, h2⟩
  · have hd : doP p o = (p, [], (if (findP p o.name).2 = 0 then (findP p o.name).1 else 0), (findP p o.name).2) := by unfold doP; rw [e]; rfl
    have hv : doV V o.kind o.name o.k o.b = (V, [], ((V o.name).map List.length).getD 0, flushE V o.name) := by unfold doV; rw [e]; rfl
    rw [hd, hv]
    refine ⟨?_, a, b, by omega, h⟩
    simp only
    unfold flushE
    cases e2 : V o.name with
    | none =>
      rw [find_heal0 h e2]
      simp only
      rw [if_neg (nmE_pos _)]
      rfl
    | some ps =>
      rw [find_heal h e2]
      simp only
      rw [if_pos trivial]
      rfl
  · have hd : doP p o = ((readPl p o.name o.k).1, (readPl p o.name o.k).2.1, 0, (readPl p o.name o.k).2.2) := by unfold doP; rw [e]; rfl
    have hv : doV V o.kind o.name o.k o.b = (V, (readV V o.name o.k).1, 0, (readV V o.name o.k).2) := by unfold doV; rw [e]; rfl
    rw [hd, hv]
    obtain ⟨h1, h2⟩ := read_heal h hm hb o.name o.k hnk
    exact ⟨by simp only; rw [h1], a, b, by omega, h2⟩
  · have hd : doP p o = ((writePl p o.name o.k o.b).1, o.b, 0, (writePl p o.name o.k o.b).2) := by unfold doP; rw [e]; rfl
    have hv : doV V o.kind o.name o.k o.b = ((writeV V o.name o.k o.b).1, o.b, 0, (writeV V o.name o.k o.b).2) := by unfold doV; rw [e]; rfl
    rw [hd, hv]
    obtain ⟨h1, h2⟩ := write_heal h hm hb o.name o.k o.b hnk
    exact ⟨by simp only; rw [h1], a, b + 1, by omega, h2⟩
  · have hd : doP p o = ((flushPl p o.name).1, [], 0, (flushPl p o.name).2) := by unfold doP; rw [e]; rfl
    have hv : doV V o.kind o.name o.k o.b = (V, [], 0, flushE V o.name) := by unfold doV; rw [e]; rfl
    rw [hd, hv]
    obtain ⟨h1, h2, -⟩ := flush_heal h hm hb o.name
    exact ⟨by simp only; rw [h1], a, b, by omega, h2⟩
/-- the first j of these files are flushed -/
def Flushed (p : Pst) (ns : List (List UInt8)) (j : Nat) : Prop := ∀ i nm, i < j → ns[i]? = some nm → Tidy p nm
theorem flushed_zero (p : Pst) (ns : List (List UInt8)) : Flushed p ns 0 := fun i nm hi => absurd hi (Nat.not_lt_zero _)
theorem HealC.flush (h : HealC p V c) (hc : c ≤ 150) {ns : List (List UInt8)} {j : Nat} {nm : List UInt8} (hj : ns[j]? = some nm) (hV : V nm ≠ none) (hf : Flushed p ns j) :
    (flushPl p nm).2 = 0 ∧ HealC (flushPl p nm).1 V c ∧ Flushed (flushPl p nm).1 ns (j + 1) := by
  obtain ⟨a, b, hab, h⟩ := h
  obtain ⟨h1, h2, h3, h4⟩ := flush_heal h (by have := prod_le a b (by omega); omega) (by omega) nm
  refine ⟨?_, ⟨a, b, hab, h2⟩, fun i x hi hx => ?_⟩
  · rw [h1]
    unfold flushE
    cases e : V nm with
    | none => exact absurd e hV
    | some ps => rfl
  · by_cases e : x = nm
    · rw [e]; exact h3 hV
    · refine h4 x (hf i x ?_ hx) e
      rcases Nat.lt_or_ge i j with h5 | h5
      · exact h5
      · obtain rfl : i = j := by omega
        exact absurd (Option.some.inj (hx.symm.trans hj)) e
/-- these are the files -/
def Named (V : Vw) (ns : List (List UInt8)) : Prop := ∀ nm, V nm ≠ none ↔ nm ∈ ns
theorem HealC.named (h : HealC p V c) : (∀ nm, V nm ≠ none → nm ∈ p.d.l.map (·.name)) ∧ (p.d.l.Pairwise (fun f g => f.name < g.name) → Named V (p.d.l.map (·.name))) := by
  obtain ⟨a, b, -, h⟩ := h
  have h1 : ∀ nm, V nm ≠ none → nm ∈ p.d.l.map (·.name) := fun nm hV => by
    cases e : V nm with
    | none => exact absurd e hV
    | some ps =>
      obtain ⟨f, hf, -⟩ := h.has nm ps e
      exact List.mem_map.2 ⟨f, getF_mem hf, getF_name hf⟩
  refine ⟨h1, fun hr nm => ⟨h1 nm, fun hm => ?_⟩⟩
  obtain ⟨f, hf, rfl⟩ := List.mem_map.1 hm
  obtain ⟨ps, e⟩ := h.known (hl_get_mem hr hf)
  rw [e]
  simp
theorem Flushed.all {ns : List (List UInt8)} (h : Flushed p ns ns.length) (hn : Named V ns) : AllTidy p V := fun nm hV => by
  obtain ⟨i, hi⟩ := List.mem_iff_getElem?.1 ((hn nm).1 hV)
  exact h i nm (List.getElem?_eq_some_iff.1 hi).1 hi
theorem Named.at_ {ns : List (List UInt8)} (h : Named V ns) {j : Nat} {nm : List UInt8} (hj : ns[j]? = some nm) : V nm ≠ none := (h nm).2 (List.mem_of_getElem? hj)
/-- a flush as one of the things done -/
def opF (nm : List UInt8) : Op10 := ⟨7, nm, 0, none, 0, 0, []⟩
theorem doP_flush (p : Pst) (nm : List UInt8) : (doP p (opF nm)).1 = (flushPl p nm).1 := by unfold doP opF; rfl
theorem Tidy.flushed {ns : List (List UInt8)} {j : Nat} (h : AllTidy p V) (hn : Named V ns) : Flushed p ns j := fun i nm _ hi => h nm ((hn nm).2 (List.mem_of_getElem? hi))
theorem HealC.drop (h : HealC p V c) (nm : List UInt8) : (dropPl p nm).2 = dropE V nm ∧ HealC (dropPl p nm).1 (upV V nm none) c ∧ (dropPl p nm).1.d.l = delF p.d.l nm := by
  obtain ⟨a, b, hab, h⟩ := h
  obtain ⟨h1, h2, h3⟩ := drop_heal h (fun _ _ => rfl) nm
  exact ⟨h1, ⟨a, b, hab, h2⟩, h3⟩
theorem HealC.gone (h : HealC p V c) {nm : List UInt8} (hV : V nm = none) : findP p nm = (0, nmE nm) := by
  obtain ⟨a, b, -, h⟩ := h
  exact find_heal0 h hV
theorem HealC.num (h : HealC p V c) : p.d.l.length ≤ c := by
  obtain ⟨a, b, hab, h⟩ := h
  have := h.num
  omega
theorem HealC.dirty (h : HealC p V c) (t : AllTidy p V) : dirN p.dl = 0 := by
  obtain ⟨a, b, -, h⟩ := h
  exact tidy_dirty h t
theorem HealC.loose (h : HealC p V c) (hr : p.d.l.Pairwise fun f g => f.name < g.name) (t : AllTidy p V) : placesL p.d.l = [] := by
  obtain ⟨a, b, -, h⟩ := h
  exact tidy_loose h hr t
theorem HealC.more (h : HealC p V c) {c' : Nat} (hc : c ≤ c') : HealC p V c' := by
  obtain ⟨a, b, hab, h⟩ := h
  exact ⟨a, b, by omega, h⟩
theorem HealC.same {q : Pst} {c' : Nat} (h : HealC p V c) (g : HealC q V c') (hr : p.d.l.Pairwise fun f g => f.name < g.name) (gr : q.d.l.Pairwise fun f g => f.name < g.name) (t : AllTidy p V) (u : AllTidy q V) :
    p.d.l.map (fun f => (f.name, f.now)) = q.d.l.map (fun f => (f.name, f.now)) := by
  obtain ⟨a, b, -, h⟩ := h
  obtain ⟨a', b', -, g⟩ := g
  exact tidy_same h g hr gr t u
theorem HealC.names {q : Pst} {c' : Nat} (h : HealC p V c) (g : HealC q V c') (hr : p.d.l.Pairwise fun f g => f.name < g.name) : Named V (p.d.l.map (·.name)) := h.named.2 hr
/-- how many of the first j files are others -/
def restN (l : List Fl) (nm : List UInt8) (j : Nat) : Nat := (delF (l.take j) nm).length
theorem HealC.len24 (h : HealC p V c) {nm : List UInt8} (hV : V nm ≠ none) : nm.length ≤ 24 := by
  obtain ⟨a, b, -, h⟩ := h
  cases e : V nm with
  | none => exact absurd e hV
  | some ps => exact h.name24 e
end
end Go.Proofs.YtamboappeahgpaaGreatDoor
/- milepostlaw10.plain and sameTold. -/
namespace Go.Proofs.YtamboappeahgpaaGreatDoor
open Go.RowKit
set_option linter.unusedSimpArgs false
set_option linter.unusedVariables false
set_option maxRecDepth 100000

def PlainV (w : World) (k : Int) (e : Ending) (w' : World) : Prop := e = .returned (.bool (decide (plainK k))) ∧ Keeps w w'
theorem not_plain {k : Int} (h : ¬ plainK k) : (k == 0) = false ∧ (k == 1) = false ∧ (k == 2) = false ∧ (k == 5) = false ∧ (k == 6) = false ∧ (k == 7) = false := by
  unfold plainK at h
  refine ⟨?_, ?_, ?_, ?_, ?_, ?_⟩ <;> (rw [beq_eq_false_iff_ne]; omega)
set_option maxHeartbeats 4000000 in
theorem plain_any (kd : Int) (sv : ByteArray) (k : Int) (A : Option Addr) (len c : Nat) (w : World) : Calls Tryz.prog 27 #[.agg #[.int .i64 kd, .string sv, .int .i64 k, .slice A len c]] w (PlainV w kd) := by
  by_cases h : plainK kd
  · have hv : ∀ W, Keeps w W → PlainV w kd (.returned (.bool true)) W := fun W k => ⟨by rw [decide_eq_true h], k⟩
    have HV := Lib.hid hv
    clear hv
    rcases h with rfl | rfl | rfl | rfl | rfl | rfl
    all_goals
      go_enter Tryz.func27, Tryz.ntmps27
      go_wp2_with fail
      go_ret
      exact HV.out _ (keeps_alloc _ _)
  · have hv : ∀ W, Keeps w W → PlainV w kd (.returned (.bool false)) W := fun W k => ⟨by rw [decide_eq_false h], k⟩
    have HV := Lib.hid hv
    obtain ⟨h0, h1, h2, h5, h6, h7⟩ := not_plain h
    clear hv h
    go_enter Tryz.func27, Tryz.ntmps27
    go_wp2_with fail
    go_ret
    exact HV.out _ (keeps_alloc _ _)
end Go.Proofs.YtamboappeahgpaaGreatDoor
/- The calls of a pool as it lies (PJ); what another object's turn leaves. -/
namespace Go.Proofs.YtamboappeahgpaaGreatDoor
open Go.RowKit
set_option linter.unusedSimpArgs false
set_option linter.unusedVariables false
set_option maxRecDepth 100000

section
variable {K : DiskOk} {w0 w w' : World} {B : PB} {S S' S2 : Nat → Prop} {p q : Pst}
theorem PJ.lt (h : PJ K w0 B p S w) : ∀ i, S i → i < w.heap.size := (stay_pool K w0 B p).lt h
theorem PJ.low (h : PJ K w0 B p S w) : ∀ i, S i → w0.heap.size ≤ i := by
  obtain ⟨Fd, Fp, X, sl, rfl, h⟩ := h
  rintro i (hi | hi)
  · exact h.D.low i hi
  · exact h.low i hi
theorem PJ.kp (h : PJ K w0 B p S w) : Keeps w0 w := by
  obtain ⟨Fd, Fp, X, sl, rfl, h⟩ := h
  exact h.D.kp
theorem PJ.ok (h : PJ K w0 B p S w) : PstOk p := by
  obtain ⟨Fd, Fp, X, sl, rfl, h⟩ := h
  exact h.ok
theorem PJ.dok (h : PJ K w0 B p S w) : DsOk p.d := by
  obtain ⟨Fd, Fp, X, sl, rfl, h⟩ := h
  exact K.ok h.D.D
theorem PJ.keep (h : PJ K w0 B p S w) (k : Keeps w w') : PJ K w0 B p S w' := by
  obtain ⟨Fd, Fp, X, sl, rfl, h⟩ := h
  exact ⟨Fd, Fp, X, sl, rfl, h.keep k⟩
/-- what another object's turn leaves -/
theorem PJ.far (h : PJ K w0 B p S w) (t : Turns w w' S2 S') (hl : ∀ i, S2 i → w0.heap.size ≤ i) (dj : ∀ i, S i → ¬ S2 i) : PJ K w0 B p S w' ∧ ∀ i, S i → ¬ S' i :=
  ⟨(stay_pool K w0 B p).turn h t.only (fun i hi => ⟨hl i hi, fun e => dj i e hi⟩), fun i hi => t.notIn (h.lt i hi) (dj i hi)⟩
/-- 'does', at a pool as it lies -/
theorem does10_pj (PK : PageOk) (h : PJ K w0 B p S w) (hZ : K.Z w0) (hS : Sizes w0) {N j : Nat} (R : Runs p N j) (hN : N ≤ 4096) (hj : j ≤ 100000) (o : Op10) (ho : Op10Ok w0 o) (hl : o.len ≤ 65536) :
    Calls Tryz.prog 26 #[.pointer (some ⟨B.pb, 0, none⟩), .pointer (some ⟨B.db, 0, none⟩), .agg (op10C o).toArray] w (Done10 w S (PJ K w0 B (doP p o).1) (doP p o).2.1 ((doP p o).2.2.1 : Int) ((doP p o).2.2.2 : Int)) := by
  obtain ⟨Fd, Fp, X, sl, rfl, h⟩ := h
  exact does10_any PK h hZ hS (R.fit hN) (by omega) (by omega) o ho hl
theorem flush_pj (PK : PageOk) (h : PJ K w0 B p S w) (hZ : K.Z w0) (hS : Sizes w0) {N j : Nat} (R : Runs p N j) (hj : j ≤ 100000) (nm : List UInt8) (hnm : nm.length ≤ maxLen) :
    Calls Tryz.prog 30 #[.pointer (some ⟨B.pb, 0, none⟩), .string (str nm)] w fun e w' => e = .returned (.int .i64 ((flushPl p nm).2 : Int)) ∧ ∃ S', PJ K w0 B (flushPl p nm).1 S' w' ∧ Turns w w' S S' := by
  obtain ⟨Fd, Fp, X, sl, rfl, h⟩ := h
  refine (flush_any PK h hZ hS R.b (by omega) nm hnm).mono ?_
  rintro e w' ⟨he, h1⟩
  exact ⟨he, left_pj h1⟩
theorem Runs.flush {N j : Nat} (R : Runs p N j) (hd : DsOk p.d) (nm : List UInt8) : Runs (flushPl p nm).1 N (j + 1) := by
  rw [← doP_flush]
  exact R.next hd (opF nm)
/-- bytes in new memory, an error, and the state -/
def TextJ (K : DiskOk) (w0 w : World) (B : PB) (S : Nat → Prop) (q : Pst) (l : List UInt8) (E : Nat) (e : Ending) (w' : World) : Prop :=
  ∃ v, e = .returned (.tuple #[v, .int .i64 (E : Int)]) ∧ Own w' w.heap.size 5 1 v l.length (cel l) ∧ ∃ S', PJ K w0 B q S' w' ∧ Turns w w' S S' ∧ (∀ g, v.ownBlock = some g → ¬ S' g)
theorem read_pj (PK : PageOk) (h : PJ K w0 B p S w) (hZ : K.Z w0) (hS : Sizes w0) {N j : Nat} (R : Runs p N j) (hN : N ≤ 4096) (hj : j ≤ 100000) (nm : List UInt8) (hnm : nm.length ≤ maxLen) (k : Int) (hk : IsI k) :
    Calls Tryz.prog 38 #[.pointer (some ⟨B.pb, 0, none⟩), .string (str nm), .int .i64 k] w (TextJ K w0 w B S (readPl p nm k).1 (readPl p nm k).2.1 (readPl p nm k).2.2) := by
  obtain ⟨Fd, Fp, X, sl, rfl, h⟩ := h
  exact (read10_any PK h hZ hS R.b (by omega) (by omega) (R.fit hN).R R.t nm hnm k hk).mono fun e w' q => text_pj q
theorem pages_pj (h : PJ K w0 B p S w) (hZ : K.Z w0) {N j : Nat} (R : Runs p N j) (hj : j ≤ 100000) (nm : List UInt8) (hnm : nm.length ≤ maxLen) :
    Calls Tryz.prog 37 #[.pointer (some ⟨B.pb, 0, none⟩), .string (str nm)] w fun e w' => e = .returned (.tuple #[.int .i64 ((if (findP p nm).2 = 0 then (findP p nm).1 else 0 : Nat) : Int), .int .i64 ((findP p nm).2 : Int)]) ∧ Keeps w w' := by
  obtain ⟨Fd, Fp, X, sl, rfl, h⟩ := h
  exact pages_any h hZ R.b (by omega) nm hnm
/-- a row that is not the object's stays -/
theorem own_far {base : Nat} {ty : TypeId} {size n : Nat} {v : Value} {xs : List Value} (o : Own w base ty size v n xs) (hn : ∀ g, v.ownBlock = some g → ¬ S g) (t : Turns w w' S S') : Own w' base ty size v n xs ∧ ∀ g, v.ownBlock = some g → ¬ S' g :=
  ⟨o.turns t hn, fun g hg => t.notIn (o.lt g hg).2 (hn g hg)⟩
theorem Runs.read {N j : Nat} (R : Runs p N j) (hd : DsOk p.d) (nm : List UInt8) (k : Int) : Runs (readPl p nm k).1 N (j + 1) := R.next hd ⟨5, nm, k, none, 0, 0, []⟩
theorem Runs.pin {N j : Nat} (R : Runs p N j) (hd : DsOk p.d) (nm : List UInt8) (k : Int) : Runs (pinPl p nm k).1 N (j + 1) := R.next hd ⟨3, nm, k, none, 0, 0, []⟩
theorem Runs.create {N j : Nat} (R : Runs p N j) (hd : DsOk p.d) (nm : List UInt8) : Runs (createPl p nm).1 N (j + 1) := R.next hd ⟨0, nm, 0, none, 0, 0, []⟩
theorem Runs.drop {N j : Nat} (R : Runs p N j) (hd : DsOk p.d) (nm : List UInt8) : Runs (dropPl p nm).1 N (j + 1) := R.next hd ⟨1, nm, 0, none, 0, 0, []⟩
theorem Runs.write {N j : Nat} (R : Runs p N j) (hd : DsOk p.d) (nm : List UInt8) (k : Int) (b : List UInt8) : Runs (writePl p nm k b).1 N (j + 1) := R.next hd ⟨6, nm, k, none, 0, 0, b⟩
end
end Go.Proofs.YtamboappeahgpaaGreatDoor
/- The four cells of what is done; a row of names. -/
namespace Go.Proofs.YtamboappeahgpaaGreatDoor
open Go.RowKit
set_option linter.unusedSimpArgs false
set_option linter.unusedVariables false
set_option maxRecDepth 100000

theorem Ops10At.four {W : World} {A : Option Addr} {l : List Op10} (h : Ops10At W A l) {i : Nat} {o : Op10} (ho : l[i]? = some o) {ad : Addr} (e : A = some ad) :
    W.cell? (ad.add (i * 4)) = some (.int .i64 o.kind) ∧ W.cell? ⟨(ad.add (i * 4)).block, (ad.add (i * 4)).off + 1, none⟩ = some (.string (str o.name)) ∧ W.cell? ⟨(ad.add (i * 4)).block, (ad.add (i * 4)).off + 2, none⟩ = some (.int .i64 o.k) ∧ W.cell? ⟨(ad.add (i * 4)).block, (ad.add (i * 4)).off + 3, none⟩ = some (.slice o.A o.len o.c) := by
  obtain ⟨ad', e', q⟩ := h.cell0 ho
  obtain rfl := Option.some.inj (e.symm.trans e')
  have c0 := q 0 (by decide)
  have c1 := q 1 (by decide)
  have c2 := q 2 (by decide)
  have c3 := q 3 (by decide)
  rw [add_pos6 _ _ (by decide)] at c1 c2 c3
  exact ⟨by simpa [op10C, Addr.add] using c0, by simpa [op10C] using c1, by simpa [op10C] using c2, by simpa [op10C] using c3⟩
end Go.Proofs.YtamboappeahgpaaGreatDoor
/- PoolBack's own list of files as pages: how it lies, and that it says what the view says. -/
namespace Go.Proofs.YtamboappeahgpaaGreatDoor
open Go.RowKit
set_option linter.unusedSimpArgs false
set_option linter.unusedVariables false
set_option maxRecDepth 100000

/-- bytes that came in -/
structure Pg where
  A : Option Addr
  c : Nat
  b : List UInt8
def pgV (x : Pg) : Value := .slice x.A x.b.length x.c
structure PgOk (w : World) (x : Pg) : Prop where
  at_ : At w w.heap.size x.A (cel x.b)
  len : x.b.length ≤ 65536
/-- a file: its name, the value of its pages, what they are -/
structure Fb where
  name : List UInt8
  pv : Value
  pg : List Pg
def fbC (f : Fb) : List Value := [strV f.name, f.pv]
theorem fbC_len (f : Fb) : (fbC f).length = 2 := rfl
def pagesF (f : Fb) : List (List UInt8) := f.pg.map (·.b)
theorem file_pages : 34 ≠ 79 := by decide
theorem info_fb : (Tryz.prog.info? 79).map (fun i => (i.zero, i.size, i.bytes)) = some (some (.agg #[.string ⟨#[]⟩, .slice none 0 0]), 2, 40) := by kernel_rfl
theorem info_pg : (Tryz.prog.info? 34).map (fun i => (i.zero, i.size, i.bytes)) = some (some (.slice none 0 0), 1, 24) := by kernel_rfl
/-- how it lies -/
structure LAt (w0 w : World) (S : Nat → Prop) (lv : Value) (fs : List Fb) : Prop where
  row : Own w w0.heap.size 79 2 lv fs.length (fs.flatMap fbC)
  far : ∀ g, lv.ownBlock = some g → ¬ S g
  each : ∀ f ∈ fs, Own w w0.heap.size 34 1 f.pv f.pg.length (f.pg.map pgV) ∧ ∀ g, f.pv.ownBlock = some g → ¬ S g
  pg : ∀ f ∈ fs, ∀ x ∈ f.pg, PgOk w0 x
section
variable {w0 w w' W : World} {S S' : Nat → Prop} {lv : Value} {fs : List Fb}
theorem LAt.keep (h : LAt w0 w S lv fs) (k : Keeps w w') : LAt w0 w' S lv fs := ⟨h.row.keep k, h.far, fun f hf => ⟨(h.each f hf).1.keep k, (h.each f hf).2⟩, h.pg⟩
theorem LAt.turn (h : LAt w0 w S lv fs) (t : Turns w w' S S') : LAt w0 w' S' lv fs := by
  obtain ⟨r1, r2⟩ := own_far h.row h.far t
  refine ⟨r1, r2, fun f hf => ?_, h.pg⟩
  obtain ⟨q1, q2⟩ := h.each f hf
  exact own_far q1 q2 t
theorem LAt.nil (w0 w : World) (S : Nat → Prop) : LAt w0 w S (.slice none 0 0) [] := ⟨Own.nil _ _ _ _, fun g hg => by simp [Value.ownBlock] at hg, fun f hf => by simp at hf, fun f hf => by simp at hf⟩
theorem fb_cells (fs : List Fb) {i : Nat} {f : Fb} (hf : fs[i]? = some f) : (fs.flatMap fbC)[i * 2]? = some (strV f.name) ∧ (fs.flatMap fbC)[i * 2 + 1]? = some f.pv := by
  have h0 := flatMap_get fbC 2 fbC_len fs (i := i) (j := 0) (by decide)
  have h1 := flatMap_get fbC 2 fbC_len fs (i := i) (j := 1) (by decide)
  rw [Nat.add_zero] at h0
  rw [h0, h1, hf]
  exact ⟨rfl, rfl⟩
theorem fb_length (fs : List Fb) : (fs.flatMap fbC).length = fs.length * 2 := flatMap_length fbC 2 fbC_len fs
/-- an element's two cells -/
theorem LAt.cell {A : Option Addr} {n c : Nat} (h : LAt w0 w S (.slice A n c) fs) (hn : n = fs.length) {i : Nat} {f : Fb} (hf : fs[i]? = some f) :
    ∃ g, A = some ⟨g, 0, none⟩ ∧ w.cell? ⟨g, i * 2, none⟩ = some (.string (str f.name)) ∧ w.cell? ⟨g, i * 2 + 1, none⟩ = some f.pv ∧ w.frozen? ⟨g, i * 2 + 1, none⟩ = false ∧ w0.heap.size ≤ g ∧ g < w.heap.size := by
  subst hn
  have hi := (List.getElem?_eq_some_iff.1 hf).1
  obtain ⟨c0, c1⟩ := fb_cells fs hf
  obtain ⟨g, rfl, q0, -, hb⟩ := h.row.cell (j := i * 2) (by rw [fb_length]; omega)
  obtain ⟨g', e, q1, z1, -⟩ := h.row.cell (j := i * 2 + 1) (by rw [fb_length]; omega)
  obtain rfl : g = g' := by injection e with e; injection e
  exact ⟨g, rfl, q0.trans c0, q1.trans c1, z1, hb, (h.row.lt g rfl).2⟩
/-- one more is put behind -/
theorem LAt.push {v4 : Value} (h : LAt w0 W S lv fs) (hS : ∀ i, S i → i < W.heap.size) {W1 w4 : World} (k : Keeps W W1) (nm : List UInt8) (ho : Own w4 w0.heap.size 79 2 v4 (fs.length + 1) (fs.flatMap fbC ++ [.string (str nm), .slice none 0 0])) (hg : W1.grownBy w4 lv.ownBlock) (hb : v4.ownBlock = lv.ownBlock ∨ v4.ownBlock = some W1.heap.size) :
    LAt w0 w4 S v4 (fs ++ [⟨nm, .slice none 0 0, []⟩]) := by
  have hr := h.row.keep k
  refine ⟨?_, fun g hgg => ?_, fun f hf => ?_, fun f hf => ?_⟩
  · rw [List.flatMap_append, List.length_append]
    exact ho
  · rcases hb with e | e
    · exact h.far g (by rw [← e]; exact hgg)
    · rw [e] at hgg
      obtain rfl := Option.some.inj hgg
      intro hs
      have h1 := hS _ hs
      have h2 := k.size
      omega
  · rcases List.mem_append.1 hf with hf | hf
    · obtain ⟨q1, q2⟩ := h.each f hf
      have q3 := q1.keep k
      exact ⟨q3.grown hg (q3.apart hr file_pages), q2⟩
    · rw [List.mem_singleton] at hf
      subst hf
      exact ⟨Own.nil _ _ _ _, fun g hg => by simp [Value.ownBlock] at hg⟩
  · rcases List.mem_append.1 hf with hf | hf
    · exact h.pg f hf
    · rw [List.mem_singleton] at hf
      subst hf
      intro x hx
      simp at hx
theorem flat_take (fs : List Fb) (k : Nat) : (fs.flatMap fbC).take (k * 2) = (fs.take k).flatMap fbC := by
  induction fs generalizing k with
  | nil => simp
  | cons f fs ih =>
    cases k with
    | zero => simp
    | succ k =>
      rw [List.flatMap_cons, List.take_succ_cons, List.flatMap_cons, ← ih k, show (k + 1) * 2 = (fbC f).length + k * 2 by rw [fbC_len]; omega, List.take_length_add_append]
theorem flat_drop (fs : List Fb) (k : Nat) : (fs.flatMap fbC).drop (k * 2) = (fs.drop k).flatMap fbC := by
  induction fs generalizing k with
  | nil => simp
  | cons f fs ih =>
    cases k with
    | zero => simp
    | succ k =>
      rw [List.flatMap_cons, List.drop_succ_cons, ← ih k, show (k + 1) * 2 = (fbC f).length + k * 2 by rw [fbC_len]; omega, List.drop_length_add_append]
/-- one is taken out: a new row -/
theorem LAt.cut {v6 : Value} (h : LAt w0 W S lv fs) (hS : ∀ i, S i → i < W.heap.size) (hw : w0.heap.size ≤ W.heap.size) {w6 : World} (k : Keeps W w6) {i n : Nat} (hn : n = (fs.take i ++ fs.drop (i + 1)).length) (ho : Own w6 W.heap.size 79 2 v6 n ((fs.take i).flatMap fbC ++ (fs.drop (i + 1)).flatMap fbC)) :
    LAt w0 w6 S v6 (fs.take i ++ fs.drop (i + 1)) := by
  subst hn
  have hsub : ∀ f ∈ fs.take i ++ fs.drop (i + 1), f ∈ fs := fun f hf => by
    rcases List.mem_append.1 hf with hf | hf
    · exact List.mem_of_mem_take hf
    · exact List.mem_of_mem_drop hf
  refine ⟨?_, fun g hgg hs => ?_, fun f hf => ⟨(h.each f (hsub f hf)).1.keep k, (h.each f (hsub f hf)).2⟩, fun f hf => h.pg f (hsub f hf)⟩
  · rw [List.flatMap_append]
    exact ho.base_le hw
  · have h1 := (ho.lt g hgg).1
    have h2 := hS g hs
    omega
theorem flat_set {fs : List Fb} {i : Nat} {f : Fb} (hf : fs[i]? = some f) (v : Value) (pg : List Pg) : (fs.set i ⟨f.name, v, pg⟩).flatMap fbC = (fs.flatMap fbC).set (i * 2 + 1) v := by
  induction fs generalizing i with
  | nil => simp at hf
  | cons g fs ih =>
    cases i with
    | zero =>
      simp only [List.getElem?_cons_zero, Option.some.injEq] at hf
      subst hf
      rw [List.set_cons_zero, List.flatMap_cons, List.flatMap_cons]
      rfl
    | succ i =>
      rw [List.set_cons_succ, List.flatMap_cons, List.flatMap_cons, ih hf, List.set_append_right _ _ (by rw [fbC_len]; omega), fbC_len]
      congr 2
      omega
/-- one file's pages are others now -/
theorem LAt.over {v6 : Value} {gl n c : Nat} (h : LAt w0 W S (.slice (some ⟨gl, 0, none⟩) n c) fs) (hn : n = fs.length) (hS : ∀ i, S i → i < W.heap.size) (hw : w0.heap.size ≤ W.heap.size) {w7 : World} (k : Keeps W w7) {i m : Nat} {f : Fb} (hf : fs[i]? = some f) {pg : List Pg} (hm : m = pg.length) (ho : Own w7 W.heap.size 34 1 v6 m (pg.map pgV)) (hpg : ∀ x ∈ pg, PgOk w0 x) :
    LAt w0 (w7.setCell ⟨gl, i * 2 + 1, none⟩ v6) S (.slice (some ⟨gl, 0, none⟩) n c) (fs.set i ⟨f.name, v6, pg⟩) := by
  subst hn
  subst hm
  have hi := (List.getElem?_eq_some_iff.1 hf).1
  have hr := h.row.keep k
  have hgl := (h.row.lt gl rfl).2
  have far : ∀ {w : World} {base : Nat} {v : Value} {n : Nat} {xs : List Value}, Own w7 base 34 1 v n xs → Own (w7.setCell ⟨gl, i * 2 + 1, none⟩ v6) base 34 1 v n xs := fun {w base v n xs} o => o.same fun g hg => Below.heap_setCell w7 ⟨gl, i * 2 + 1, none⟩ v6 g (fun e => by
    rcases o.apart hr file_pages with h1 | h1
    · rw [h1] at hg; cases hg
    · exact h1 (by rw [hg, show g = gl from e]; rfl))
  refine ⟨?_, h.far, fun x hx => ?_, fun x hx => ?_⟩
  · rw [flat_set hf, List.length_set]
    exact hr.store (j := i * 2 + 1) (by rw [fb_length]; omega) v6
  · rcases List.mem_or_eq_of_mem_set hx with hx | rfl
    · obtain ⟨q1, q2⟩ := h.each x hx
      exact ⟨far (w := w7) (q1.keep k), q2⟩
    · refine ⟨far (w := w7) (ho.base_le hw), fun g hg hs => ?_⟩
      have h1 := (ho.lt g hg).1
      have h2 := hS g hs
      omega
  · rcases List.mem_or_eq_of_mem_set hx with hx | rfl
    · exact h.pg x hx
    · exact hpg
end
section
variable {K : DiskOk} {w0 w w' : World} {B : PB} {S : Nat → Prop} {p : Pst}
/-- a row of one's own grows: the pool stays -/
theorem PJ.grown (h : PJ K w0 B p S w) {row : Option Nat} (hg : w.grownBy w' row) (hr : ∀ g, row = some g → w0.heap.size ≤ g ∧ ¬ S g) : PJ K w0 B p S w' :=
  (stay_pool K w0 B p).turn (T := fun i => row = some i) h ((Only.refl w _).grown hg (fun g hg => .inl hg)) (fun i hi => hr i hi)
theorem PJ.put (h : PJ K w0 B p S w) (a : Addr) (v : Value) (h1 : w0.heap.size ≤ a.block) (h2 : ¬ S a.block) : PJ K w0 B p S (w.setCell a v) :=
  (stay_pool K w0 B p).turn (T := fun i => i = a.block) h (only_set w a v) (fun i hi => by rw [show i = a.block from hi]; exact ⟨h1, h2⟩)
end

/-! ### It says what the view says -/
def idxF (fs : List Fb) (nm : List UInt8) : Option Nat := fs.findIdx? fun f => decide (f.name = nm)
def VAt (V : Vw) (fs : List Fb) : Prop := (∀ nm, V nm = (fs.find? fun f => decide (f.name = nm)).map pagesF) ∧ (fs.map (·.name)).Nodup
theorem find_at {fs : List Fb} (hn : (fs.map (·.name)).Nodup) {i : Nat} {f : Fb} (hf : fs[i]? = some f) : fs.find? (fun x => decide (x.name = f.name)) = some f := by
  induction fs generalizing i with
  | nil => simp at hf
  | cons g fs ih =>
    rw [List.map_cons, List.nodup_cons] at hn
    rw [List.find?_cons]
    cases i with
    | zero =>
      simp only [List.getElem?_cons_zero, Option.some.injEq] at hf
      subst hf
      simp
    | succ i =>
      simp only [List.getElem?_cons_succ] at hf
      have hne : g.name ≠ f.name := fun e => hn.1 (by rw [e]; exact List.mem_map.2 ⟨f, List.mem_of_getElem? hf, rfl⟩)
      rw [decide_eq_false hne]
      exact ih hn.2 hf
theorem idx_none_V {V : Vw} {fs : List Fb} (h : VAt V fs) {nm : List UInt8} (e : idxF fs nm = none) : V nm = none := by
  rw [h.1 nm]
  unfold idxF at e
  rw [List.findIdx?_eq_none_iff] at e
  rw [Option.map_eq_none_iff, List.find?_eq_none]
  intro x hx h2
  rw [e x hx] at h2
  cases h2
theorem idx_some_V {V : Vw} {fs : List Fb} (h : VAt V fs) {nm : List UInt8} {i : Nat} (e : idxF fs nm = some i) : ∃ f, fs[i]? = some f ∧ f.name = nm ∧ V nm = some (pagesF f) := by
  unfold idxF at e
  obtain ⟨hi, hp, -⟩ := List.findIdx?_eq_some_iff_getElem.1 e
  have hn : fs[i].name = nm := of_decide_eq_true hp
  refine ⟨fs[i], List.getElem?_eq_getElem hi, hn, ?_⟩
  rw [h.1 nm, ← hn, find_at h.2 (List.getElem?_eq_getElem hi)]
  rfl
theorem vat_first : VAt (fun _ => none) [] := ⟨fun _ => rfl, by simp⟩
theorem find_none_of {fs : List Fb} {nm : List UInt8} (h : ∀ f ∈ fs, f.name ≠ nm) : fs.find? (fun f => decide (f.name = nm)) = none := by
  rw [List.find?_eq_none]
  intro x hx h2
  exact h x hx (of_decide_eq_true h2)
theorem VAt.none_mem {V : Vw} {fs : List Fb} (h : VAt V fs) {nm : List UInt8} (e : V nm = none) : ∀ f ∈ fs, f.name ≠ nm := fun f hf e2 => by
  obtain ⟨i, hi⟩ := List.mem_iff_getElem?.1 hf
  have := find_at h.2 hi
  rw [e2] at this
  rw [h.1 nm, this] at e
  cases e
theorem vat_push {V : Vw} {fs : List Fb} (h : VAt V fs) {nm : List UInt8} (e : V nm = none) (v : Value) : VAt (upV V nm (some [])) (fs ++ [⟨nm, v, []⟩]) := by
  have hno := h.none_mem e
  refine ⟨fun x => ?_, ?_⟩
  · rw [List.find?_append]
    unfold upV
    by_cases ex : x = nm
    · subst ex
      rw [if_pos rfl, find_none_of hno]
      simp [pagesF]
    · rw [if_neg ex, h.1 x]
      cases fs.find? fun f => decide (f.name = x) with
      | some f => rfl
      | none =>
        have : ¬ nm = x := fun e2 => ex e2.symm
        simp [this]
  · rw [List.map_append, List.nodup_append]
    refine ⟨h.2, by simp, fun a ha b hb => ?_⟩
    obtain ⟨f, hf, rfl⟩ := List.mem_map.1 ha
    simp only [List.map_cons, List.map_nil, List.mem_singleton] at hb
    rw [hb]
    exact hno f hf
theorem vat_same {V V' : Vw} {fs : List Fb} (h : VAt V fs) (e : ∀ x, V' x = V x) : VAt V' fs := ⟨fun x => (e x).trans (h.1 x), h.2⟩
theorem vat_cut {V : Vw} {fs : List Fb} (h : VAt V fs) {nm : List UInt8} {i : Nat} {f : Fb} (hf : fs[i]? = some f) (hn : f.name = nm) : VAt (upV V nm none) (fs.take i ++ fs.drop (i + 1)) := by
  have hi := (List.getElem?_eq_some_iff.1 hf).1
  have e : fs = fs.take i ++ f :: fs.drop (i + 1) := by
    obtain ⟨hj, hfe⟩ := List.getElem?_eq_some_iff.1 hf
    rw [← hfe, ← List.drop_eq_getElem_cons hj, List.take_append_drop]
  have h2 := h.2
  rw [e, List.map_append, List.map_cons, List.nodup_append, List.nodup_cons] at h2
  obtain ⟨a1, ⟨a2, a3⟩, a4⟩ := h2
  have hno : ∀ g ∈ fs.take i ++ fs.drop (i + 1), g.name ≠ nm := fun g hg e2 => by
    rcases List.mem_append.1 hg with hg | hg
    · exact a4 g.name (List.mem_map.2 ⟨g, hg, rfl⟩) f.name (List.mem_cons_self) (e2.trans hn.symm)
    · exact a2 (by rw [hn, ← e2]; exact List.mem_map.2 ⟨g, hg, rfl⟩)
  refine ⟨fun x => ?_, ?_⟩
  · unfold upV
    by_cases ex : x = nm
    · subst ex
      rw [if_pos rfl, find_none_of hno]
      rfl
    · rw [if_neg ex, h.1 x]
      conv => lhs; rw [e]
      rw [List.find?_append, List.find?_append, List.find?_cons]
      have : ¬ f.name = x := fun e2 => ex (e2.symm.trans hn)
      rw [decide_eq_false this]
  · rw [List.map_append, List.nodup_append]
    exact ⟨a1, a3, fun a ha b hb => a4 a ha b (List.mem_cons_of_mem _ hb)⟩
theorem vat_over {V : Vw} {fs : List Fb} (h : VAt V fs) {nm : List UInt8} {i : Nat} {f : Fb} (hf : fs[i]? = some f) (hn : f.name = nm) (v : Value) (pg : List Pg) : VAt (upV V nm (some (pg.map (·.b)))) (fs.set i ⟨f.name, v, pg⟩) := by
  have hi := (List.getElem?_eq_some_iff.1 hf).1
  have hnames : (fs.set i ⟨f.name, v, pg⟩).map (·.name) = fs.map (·.name) := by
    rw [List.map_set]
    apply List.ext_getElem?
    intro j
    rw [List.getElem?_set]
    split
    · rename_i e
      subst e
      rw [if_pos (by rw [List.length_map]; exact hi), List.getElem?_map, hf]
      rfl
    · rfl
  have h2 : ((fs.set i ⟨f.name, v, pg⟩).map (·.name)).Nodup := by rw [hnames]; exact h.2
  refine ⟨fun x => ?_, h2⟩
  have hat : (fs.set i ⟨f.name, v, pg⟩)[i]? = some ⟨f.name, v, pg⟩ := by rw [List.getElem?_set, if_pos rfl, if_pos hi]
  unfold upV
  by_cases ex : x = nm
  · rw [if_pos ex, ex, ← hn]
    rw [find_at h2 hat]
    rfl
  · rw [if_neg ex, h.1 x]
    have key : ∀ (l : List Fb) (j : Nat), (l[j]? = some f) → (l.find? fun g => decide (g.name = x)) = ((l.set j ⟨f.name, v, pg⟩).find? fun g => decide (g.name = x)) := by
      intro l
      induction l with
      | nil => intro j hj; simp at hj
      | cons g l ih =>
        intro j hj
        have hfx : ¬ f.name = x := fun e2 => ex (e2.symm.trans hn)
        cases j with
        | zero =>
          simp only [List.getElem?_cons_zero, Option.some.injEq] at hj
          subst hj
          rw [List.set_cons_zero, List.find?_cons, List.find?_cons]
          rw [decide_eq_false hfx]
        | succ j =>
          simp only [List.getElem?_cons_succ] at hj
          rw [List.set_cons_succ, List.find?_cons, List.find?_cons, ih j hj]
    rw [key fs i hf]
/-- one page is other now, or one more -/
def setPg (ps : List Pg) (k : Nat) (x : Pg) : List Pg := ps.take k ++ x :: ps.drop (k + 1)
theorem setPg_b (ps : List Pg) (k : Nat) (x : Pg) : (setPg ps k x).map (·.b) = setP (ps.map (·.b)) k x.b := by
  unfold setPg setP
  simp [List.map_take, List.map_drop]
theorem setPg_set {ps : List Pg} {k : Nat} (hk : k < ps.length) (x : Pg) : setPg ps k x = ps.set k x := by
  unfold setPg
  rw [List.set_eq_take_append_cons_drop, if_pos hk]
theorem setPg_end (ps : List Pg) (x : Pg) : setPg ps ps.length x = ps ++ [x] := by
  unfold setPg
  rw [List.take_length, List.drop_eq_nil_of_le (by omega)]
theorem setPg_mem {ps : List Pg} {k : Nat} {x y : Pg} (h : y ∈ setPg ps k x) : y = x ∨ y ∈ ps := by
  unfold setPg at h
  rcases List.mem_append.1 h with h | h
  · exact .inr (List.mem_of_mem_take h)
  · rcases List.mem_cons.1 h with h | h
    · exact .inl h
    · exact .inr (List.mem_of_mem_drop h)
theorem pages_len (f : Fb) : (pagesF f).length = f.pg.length := by unfold pagesF; rw [List.length_map]
theorem pages_get {f : Fb} {k : Nat} {x : Pg} (h : f.pg[k]? = some x) : (pagesF f)[k]? = some x.b := by unfold pagesF; rw [List.getElem?_map, h]; rfl

set_option maxHeartbeats 8000000 in
theorem find_any10 {w0 w : World} {S : Nat → Prop} {lv : Value} {fs : List Fb} (h : LAt w0 w S lv fs) (hm : fs.length ≤ 1000) (nm : List UInt8) :
    Calls Tryz.prog 32 #[lv, .string (str nm)] w fun e w' => e = .returned (.int .i64 (((idxF fs nm).map (fun i : Nat => (i : Int))).getD (-1))) ∧ Keeps w w' := by
  obtain ⟨A, c, rfl, -⟩ := h.row.form
  have H := Lib.hid h
  obtain ⟨n, hn⟩ : ∃ n, fs.length = n := ⟨_, rfl⟩
  rw [hn] at hm H ⊢
  have HN := Lib.hid hn
  have hni : (n : Int) ≤ 1000 := by omega
  obtain ⟨R, hR⟩ : ∃ R : Int, ((idxF fs nm).map (fun i : Nat => (i : Int))).getD (-1) = R := ⟨_, rfl⟩
  have HR := Lib.hid hR
  rw [hR]
  clear h hn hm hR
  go_enter Tryz.func32, Tryz.ntmps32
  go_wp2_with fail
  go_loopw [5] (fun i wr => ∃ j : Nat, j ≤ n ∧ i = .int .i64 j ∧ Hid (∀ (k : Nat) (f : Fb), k < j → fs[k]? = some f → f.name ≠ nm) ∧ Hid (Keeps w wr)) (fun i _ => n - (intOf i).toNat)
  case atStart => exact ⟨0, Nat.zero_le _, rfl, Lib.hid (fun k f hk => by omega), Lib.hid (keeps_refl _)⟩
  case round =>
    obtain ⟨j, hj, rfl, HP, KR⟩ := hrel
    by_cases hlt : j < n
    · have hjn : (j : Int) < (n : Int) := by omega
      obtain ⟨f, hf⟩ : ∃ f, fs[j]? = some f := ⟨_, List.getElem?_eq_getElem (by have := HN.out; omega)⟩
      obtain ⟨g, rfl, q0, -⟩ := (H.out.keep KR.out).cell HN.out.symm hf
      have hse := str_eq f.name nm
      have HF := Lib.hid hf
      clear hf
      by_cases hnm : f.name = nm
      · have hres : R = (j : Int) := by
          rw [← HR.out]
          have : idxF fs nm = some j := by
            unfold idxF
            rw [List.findIdx?_eq_some_iff_getElem]
            obtain ⟨hjl, hfe⟩ := List.getElem?_eq_some_iff.1 HF.out
            refine ⟨hjl, by rw [hfe]; exact decide_eq_true hnm, fun k hk => ?_⟩
            simpa using HP.out k _ hk (List.getElem?_eq_getElem (by omega))
          rw [this]
          rfl
        rw [decide_eq_true hnm] at hse
        have RS := Lib.hid hres
        clear hnm hres
        generalize (str f.name) = s1 at *
        generalize (str nm) = s2 at *
        go_wp2_with fail
        go_ret
        exact ⟨by rw [RS.out]; rfl, KR.out⟩
      · have NX := Lib.hid (show ∀ (k : Nat) (f : Fb), k < j + 1 → fs[k]? = some f → f.name ≠ nm from fun k f' hk hf' => by
          by_cases e : k < j
          · exact HP.out k f' e hf'
          · obtain rfl : k = j := by omega
            obtain rfl := Option.some.inj (HF.out.symm.trans hf')
            exact hnm)
        rw [decide_eq_false hnm] at hse
        clear hnm
        generalize (str f.name) = s1 at *
        generalize (str nm) = s2 at *
        go_wp2_with fail
        go_roundw
        case rel => exact ⟨j + 1, by omega, by go_num, NX, KR⟩
        case measure => simp [intOf] <;> omega
    · obtain rfl : j = n := by omega
      have hres : R = -1 := by
        rw [← HR.out]
        have : idxF fs nm = none := by
          unfold idxF
          rw [List.findIdx?_eq_none_iff]
          intro f hf
          obtain ⟨k, hk⟩ := List.mem_iff_getElem?.1 hf
          have := HP.out k f (by rw [← HN.out]; exact (List.getElem?_eq_some_iff.1 hk).1) hk
          simpa using this
        rw [this]
        rfl
      have RS := Lib.hid hres
      clear hlt hj hres
      go_wp2_with fail
      go_ret
      exact ⟨by rw [RS.out]; rfl, KR.out⟩
end Go.Proofs.YtamboappeahgpaaGreatDoor
/- PoolBack: what each thing done says of the view; the addresses of a list's end; a new pool behind a loss of power. -/
namespace Go.Proofs.YtamboappeahgpaaGreatDoor
open Go.RowKit
set_option linter.unusedSimpArgs false
set_option linter.unusedVariables false
set_option maxRecDepth 100000

theorem own_emptyP (w : World) (e : TypeId) (size : Nat) : Own (w.alloc (.cells #[] e)) w.heap.size e size (.slice (some ⟨w.heap.size, 0, none⟩) 0 0) 0 [] :=
  ⟨by simp, .inr ⟨w.heap.size, 0, #[], (0, 0), rfl, Nat.le_refl _, heap_alloc_new w _, .inl rfl, Nat.le_refl _, by simp [maxLen], by simp, by simp⟩⟩
theorem keeps_put {W w6 : World} (k : Keeps W w6) {a : Addr} (h : W.heap.size ≤ a.block) (v : Value) : Keeps W (w6.setCell a v) :=
  Below.trans k ((only_set w6 a v).below (fun b hb => by rw [show b = a.block from hb]; exact h) k.size)
theorem at_newP (w : World) (t : TypeId) (cs : Array Value) : At (w.alloc (.cells cs t)) (w.alloc (.cells cs t)).heap.size (some ⟨w.heap.size, 0, none⟩) cs.toList := by
  refine .inr ⟨_, rfl, by simp, fun j u hu => ?_⟩
  rw [Addr.add_lit]
  have := (Box.new w t cs).cell j (v := u) (by simpa using hu)
  simpa using this
theorem info_partsP {P : Program} {t : TypeId} {z : Value} {s b : Nat} (h : (P.info? t).map (fun i => (i.zero, i.size, i.bytes)) = some (some z, s, b)) : ∃ i, P.info? t = some i ∧ i.zero = some z ∧ i.size = s ∧ i.bytes = b := by
  obtain ⟨i, hi, e⟩ := Option.map_eq_some_iff.1 h
  injection e with e1 e2
  injection e2 with e2 e3
  exact ⟨i, hi, e1, e2, e3⟩
theorem size_fb : (Tryz.prog.info? 79).map (·.size) = some 2 := by kernel_rfl
/-- the address of L[k:] where the elements have two cells -/
def dropP2 (A : Option Addr) (c k : Nat) : Option Addr := if c = k then A else A.map (·.add (k * 2))
theorem At.dropP {w : World} {B : Nat} {A : Option Addr} {n c k : Nat} {xs : List Value} (h : At w B A xs) (hn : xs.length = n * 2) (hc : n ≤ c) : At w B (dropP2 A c k) (xs.drop (k * 2)) := by
  unfold dropP2
  by_cases e : c = k
  · rw [if_pos e, List.drop_of_length_le (by omega)]
    exact .inl rfl
  · rw [if_neg e]
    rcases A with _ | ad
    · rcases h with h | ⟨ad, e', _⟩
      · rw [h]; simpa using At.nil _ _ _
      · cases e'
    · exact h.drop (k * 2)
section
variable {P : Program}
theorem run_fromP (t e : TypeId) (ht : P.underlying t = some (.slice e)) (he : (P.info? e).map (·.size) = some 2) (A : Option Addr) (n c k : Nat) (hk : k ≤ n) (w : World) :
    (Instr.sliceAt t (.slice A n c) (some (.int .i64 (k : Int))) none none).run P w = .ok (.slice (dropP2 A c k) (n - k) (c - k)) w := by
  have he' : P.elem t = e := by simp [Program.elem, ht]
  have ht' : P.underlying t = some (.slice (P.elem t)) := by rw [he']; exact ht
  obtain ⟨i, hi, hs⟩ := Option.map_eq_some_iff.1 he
  rw [run_sliceAt_slice (h := ht'), run_slice_l (ht := ht') (h0 := by omega) (h1 := by omega)]
  rw [he']
  simp [sizeOf, typeInfo, hi, hs, sliced, dropP2]
end
theorem fbC_one (fs : List Fb) (h : ∀ f ∈ fs, ∃ A n c, f.pv = .slice A n c) : ∀ u ∈ fs.flatMap fbC, u.oneCell' = true := by
  intro u hu
  obtain ⟨f, hf, hu⟩ := List.mem_flatMap.1 hu
  obtain ⟨A, n, c, e⟩ := h f hf
  simp only [fbC, List.mem_cons, List.not_mem_nil, or_false] at hu
  rcases hu with rfl | rfl
  · rfl
  · rw [e]; rfl
theorem pgV_one (l : List Pg) : ∀ u ∈ l.map pgV, u.oneCell' = true := by
  intro u hu
  obtain ⟨x, -, rfl⟩ := List.mem_map.1 hu
  rfl
theorem LAt.slices {w0 w : World} {S : Nat → Prop} {lv : Value} {fs : List Fb} (h : LAt w0 w S lv fs) : ∀ f ∈ fs, ∃ A n c, f.pv = .slice A n c := fun f hf => by
  obtain ⟨A, c, e, -⟩ := (h.each f hf).1.form
  exact ⟨A, _, c, e⟩
/-- the pool has other blocks now, all new -/
theorem LAt.re {w0 w : World} {S S' : Nat → Prop} {lv : Value} {fs : List Fb} (h : LAt w0 w S lv fs) (hS : ∀ i, S' i → S i ∨ w.heap.size ≤ i) : LAt w0 w S' lv fs :=
  ⟨h.row, fun g hg hs => by
    rcases hS g hs with h1 | h1
    · exact h.far g hg h1
    · have := (h.row.lt g hg).2; omega, fun f hf => ⟨(h.each f hf).1, fun g hg hs => by
    rcases hS g hs with h1 | h1
    · exact (h.each f hf).2 g hg h1
    · have := ((h.each f hf).1.lt g hg).2; omega⟩, h.pg⟩

/-! ### What is answered -/
section
variable {V : Vw} {nm : List UInt8} {k : Int} {t : List UInt8} {ps : List (List UInt8)}
theorem dv_create_bad (h : nameOk nm = false) : doV V 0 nm k t = (V, [], 0, 1) := by unfold doV createV; rw [if_pos rfl, if_pos h]
theorem dv_create_old (h : nameOk nm = true) (hV : V nm = some ps) : doV V 0 nm k t = (V, [], 0, 4) := by unfold doV createV; rw [if_pos rfl, if_neg (by rw [h]; simp), hV]
theorem dv_create (h : nameOk nm ≠ false) (hV : V nm = none) : doV V 0 nm k t = (upV V nm (some []), [], 0, 0) := by unfold doV createV; rw [if_pos rfl, if_neg h, hV]
theorem dv_drop (hV : V nm = some ps) : doV V 1 nm k t = (upV V nm none, [], 0, 0) := by unfold doV dropE; rw [if_neg (by decide), if_pos rfl, hV]
theorem dv_drop_no (hV : V nm = none) : doV V 1 nm k t = (upV V nm none, [], 0, nmE nm) := by unfold doV dropE; rw [if_neg (by decide), if_pos rfl, hV]
theorem dv_pages (hV : V nm = some ps) : doV V 2 nm k t = (V, [], ps.length, 0) := by unfold doV flushE; rw [if_neg (by decide), if_neg (by decide), if_pos rfl, hV]; rfl
theorem dv_pages_no (hV : V nm = none) : doV V 2 nm k t = (V, [], 0, nmE nm) := by unfold doV flushE; rw [if_neg (by decide), if_neg (by decide), if_pos rfl, hV]; rfl
theorem dv_read_no (hV : V nm = none) : doV V 5 nm k t = (V, [], 0, nmE nm) := by unfold doV readV; rw [if_neg (by decide), if_neg (by decide), if_neg (by decide), if_pos rfl, hV]
theorem dv_read_neg (hV : V nm = some ps) (hk : k < 0) : doV V 5 nm k t = (V, [], 0, 1) := by unfold doV readV; rw [if_neg (by decide), if_neg (by decide), if_neg (by decide), if_pos rfl, hV]; simp only; rw [if_pos hk]
theorem dv_read_far (hV : V nm = some ps) (hk : 0 ≤ k) (h : ps.length ≤ k.toNat) : doV V 5 nm k t = (V, [], 0, 3) := by
  unfold doV readV
  rw [if_neg (by decide), if_neg (by decide), if_neg (by decide), if_pos rfl, hV]
  simp only
  rw [if_neg (by omega), List.getElem?_eq_none h]
theorem dv_read {x : List UInt8} (hV : V nm = some ps) (hk : 0 ≤ k) (h : ps[k.toNat]? = some x) : doV V 5 nm k t = (V, x, 0, 0) := by
  unfold doV readV
  rw [if_neg (by decide), if_neg (by decide), if_neg (by decide), if_pos rfl, hV]
  simp only
  rw [if_neg (by omega), h]
theorem dv_write_big (h : 240 < t.length) : doV V 6 nm k t = (V, t, 0, 9) := by unfold doV writeV; rw [if_neg (by decide), if_neg (by decide), if_neg (by decide), if_neg (by decide), if_pos rfl, if_pos h]
theorem dv_write_no (h : ¬ 240 < t.length) (hV : V nm = none) : doV V 6 nm k t = (V, t, 0, nmE nm) := by unfold doV writeV; rw [if_neg (by decide), if_neg (by decide), if_neg (by decide), if_neg (by decide), if_pos rfl, if_neg h, hV]
theorem dv_write_bad (h : ¬ 240 < t.length) (hV : V nm = some ps) (hk : k < 0 ∨ ps.length < k.toNat) : doV V 6 nm k t = (V, t, 0, 1) := by unfold doV writeV; rw [if_neg (by decide), if_neg (by decide), if_neg (by decide), if_neg (by decide), if_pos rfl, if_neg h, hV]; simp only; rw [if_pos hk]
theorem dv_write (h : ¬ 240 < t.length) (hV : V nm = some ps) (hk : ¬ (k < 0 ∨ ps.length < k.toNat)) : doV V 6 nm k t = (upV V nm (some (setP ps k.toNat t)), t, 0, 0) := by unfold doV writeV; rw [if_neg (by decide), if_neg (by decide), if_neg (by decide), if_neg (by decide), if_pos rfl, if_neg h, hV]; simp only; rw [if_neg hk]
theorem dv_flush : doV V 7 nm k t = (V, [], 0, flushE V nm) := by unfold doV; rw [if_neg (by decide), if_neg (by decide), if_neg (by decide), if_neg (by decide), if_neg (by decide)]
end
theorem HealC.ok_name {p : Pst} {V : Vw} {c : Nat} (h : HealC p V c) {nm : List UInt8} {ps : List (List UInt8)} (hV : V nm = some ps) : nameOk nm = true := by
  obtain ⟨a, b, -, h⟩ := h
  exact h.name _ _ hV
theorem HealC.find {p : Pst} {V : Vw} {c : Nat} (h : HealC p V c) {nm : List UInt8} {ps : List (List UInt8)} (hV : V nm = some ps) : findP p nm = (ps.length, 0) := by
  obtain ⟨a, b, -, h⟩ := h
  exact find_heal h hV
theorem HealC.read {p : Pst} {V : Vw} {c : Nat} (h : HealC p V c) (hc : c ≤ 150) {nm : List UInt8} {ps : List (List UInt8)} (hV : V nm = some ps) {k : Nat} {x : List UInt8} (hx : ps[k]? = some x) : (readPl p nm (k : Int)).2 = (x, 0) ∧ HealC (readPl p nm (k : Int)).1 V c := by
  obtain ⟨a, b, hab, h⟩ := h
  obtain ⟨h1, h2⟩ := read_heal h (by have := prod_le a b (by omega); omega) (by omega) nm (k : Int) (fun _ => ⟨rfl, h.free (fun _ _ => rfl)⟩)
  refine ⟨h1.trans ?_, a, b, hab, h2⟩
  unfold readV
  rw [hV]
  simp only
  rw [if_neg (by omega), Int.toNat_natCast, hx]
/-- behind a loss of power a new pool says the same -/
theorem HealC.back {p : Pst} {V : Vw} {c : Nat} (h : HealC p V c) (hr : p.d.l.Pairwise fun f g => f.name < g.name) (t : AllTidy p V) {n : Nat} (hn : 1 ≤ n ∧ n ≤ 4096) : HealC (newPl ⟨backL [] p.d.l 0, p.d.q, 0, false⟩ n) V c := by
  obtain ⟨a, b, hab, h⟩ := h
  exact ⟨a, b, hab, tidy_back h hr t hn⟩
theorem HealC.power {p : Pst} {V : Vw} {c : Nat} (h : HealC p V c) : armS p.d 1 = ({ p.d with armed := 1 }, 0) ∧ (∀ nm, createS { p.d with armed := 1 } nm = (⟨p.d.l, p.d.q, 0, true⟩, 6)) ∧ onS ⟨p.d.l, p.d.q, 0, true⟩ [] = (⟨backL [] p.d.l 0, p.d.q, 0, false⟩, 0) := by
  obtain ⟨a, b, -, h⟩ := h
  have ho := h.off
  refine ⟨?_, fun nm => ?_, ?_⟩
  · unfold armS
    rw [if_neg (by decide), ho, if_neg (by simp)]
    simp only [ho]
    rfl
  · unfold createS goneS
    simp [ho]
  · unfold onS
    rw [if_neg (by simp)]
theorem VAt.named {V : Vw} {fs : List Fb} (h : VAt V fs) : Named V (fs.map (·.name)) := fun nm => by
  constructor
  · intro hV
    rw [h.1 nm] at hV
    cases e : fs.find? fun f => decide (f.name = nm) with
    | none => rw [e] at hV; exact absurd rfl hV
    | some f => exact List.mem_map.2 ⟨f, List.mem_of_find?_eq_some e, by have := List.find?_some e; simpa using this⟩
  · intro hm hV
    obtain ⟨f, hf, e⟩ := List.mem_map.1 hm
    exact h.none_mem hV f hf e
theorem VAt.at_ {V : Vw} {fs : List Fb} (h : VAt V fs) {i : Nat} {f : Fb} (hf : fs[i]? = some f) : V f.name = some (pagesF f) := by
  rw [h.1 f.name, find_at h.2 hf]
  rfl
end Go.Proofs.YtamboappeahgpaaGreatDoor
